package beam

import "griffe/api"

// least returns the least cloth that so much of a warp can give.
func least(w api.BeamWarp, length int) int {
	return woven(length, w.Stretch.Low, w.Crimp.High, w.Waste.High)
}

// most returns the most cloth that so much of a warp can give.
func most(w api.BeamWarp, length int) int {
	return woven(length, w.Stretch.High, w.Crimp.Low, w.Waste.Low)
}

// woven returns the cloth of a warp, as it truly is.
func woven(length, stretch, crimp, waste int) int {
	stretched := length * (thousand + stretch) / thousand
	return max(0, stretched*(thousand-crimp)/thousand-waste)
}

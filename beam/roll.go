package beam

import "griffe/api"

// roll is warp on a beam.
type roll struct{ api.BeamRoll }

// round returns the round of a layer.
func (r roll) round(layer int) int { return r.Core + layer*r.Thick }

// bears returns the layers on which a weight pulls as it must.
func (r roll) bears(weight int) span {
	force := weight * r.Pulley
	isHighEnough := func(layer int) bool { return force <= r.Pull.High*r.round(layer) }
	isTooHigh := func(layer int) bool { return force < r.Pull.Low*r.round(layer) }
	return spanOf(0, r.Layers-1).part(isHighEnough, isTooHigh)
}

// turns returns which weights hang on which layers, or the outermost layer on which none of them can. Each weight hangs for as long as any can: so there are as few turns as there can be.
func (r roll) turns(weights ...int) (turns []api.BeamTurn, layer int, ok bool) {
	last := r.Layers
	for further := range r.Layers {
		layer := r.Layers - 1 - further
		if layer >= last {
			continue
		}
		weight, down, ok := r.longest(layer, weights...)
		if !ok {
			return nil, layer, false
		}
		turns = append(turns, api.BeamTurn{Layer: layer, Weight: weight})
		last = down
	}
	return turns, 0, true
}

// longest returns the weight that can hang from a layer on for as many layers as any can, and the last one of these, if there is such a weight.
func (r roll) longest(layer int, weights ...int) (weight, last int, ok bool) {
	for _, w := range weights {
		layers := r.bears(w)
		if layers.has(layer) && (!ok || layers.Low < last) {
			weight, last, ok = w, layers.Low, true
		}
	}
	return weight, last, ok
}

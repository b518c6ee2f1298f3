// Package layers holds the tests of what all layers share: their calls, the limits and errors, and the form of the code.
package layers

package source

import (
	"errors"
	"testing"

	"pointsman/api"
)

// wrapped is an error around another.
type wrapped struct{ error }

func (w wrapped) Unwrap() error { return w.error }

// TestEnded: what a pass is left by tells how it ended, also from within another error.
func TestEnded(t *testing.T) { // P15.2
	var left ended
	for _, err := range []error{ended{api.EndSteps}, wrapped{ended{api.EndSteps}}} {
		if !errors.As(err, &left) || left.end != api.EndSteps || err.Error() == "" {
			t.Errorf("%v: %+v", err, left)
		}
	}
}

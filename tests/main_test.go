package tests

import (
	"runtime/debug"
	"testing"
)

// TestMain has garbage collected less often: the tests keep little and drop much, and would spend most of their time on that.
func TestMain(m *testing.M) {
	debug.SetGCPercent(400)
	m.Run()
}

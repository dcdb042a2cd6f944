package impl

import (
	"errors"
	"testing"
)

// No call raises anything but refusals, so what the door does with all else is tested here.

func TestPromise10Door(t *testing.T) {
	for _, reply := range []string{noReply, whatReply} {
		err := refusalIn(func() { panic(refusal{reply: reply}) })
		var refused refusal
		if !errors.Is(err, errRefused) || !errors.As(err, &refused) || refused.reply != reply {
			t.Error("a refusal comes through the door as", err)
		}
	}
	done := false
	if err := refusalIn(func() { done = true }); err != nil || !done {
		t.Error("what is not refused comes through the door as", err, done)
	}
	for _, other := range []any{"no", 7, errors.New("no"), stuck{}} {
		func() {
			defer func() {
				if raised := recover(); raised != other {
					t.Error("raised again", raised, "instead of", other)
				}
			}()
			t.Error("the door keeps", refusalIn(func() { panic(other) }))
		}()
	}
}

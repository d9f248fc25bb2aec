package vm

import (
	"testing"

	"heirloom/api"
	"heirloom/code"
)

// A native function of a number that is none: ErrType. No program comes to have one, so it is put into a register here.
func TestP15_2NoNative(t *testing.T) {
	for _, number := range []int{api.NatCollect + 1, 99, 255} {
		for _, op := range []int{api.ICall, api.ITailCall} {
			p := api.Program{Protos: []api.Proto{{Regs: 3, Code: []api.Ins{{Op: op, A: 0, B: 2}, {Op: api.IReturn}}}}}
			m, err := New(p, 3000)
			if err != api.OK {
				t.Fatal(err)
			}
			m.set(0, native(number))
			if n := m.Step(9); n != 1 || m.Verdict() != api.Failed || m.Error() != api.ErrType.Error() {
				t.Errorf("the native function %d: %d steps, verdict %d, %q", number, n, m.Verdict(), m.Error())
			}
		}
	}
}

// Of coroutines that nobody holds any more nothing is kept for long, also where others come to have their handles.
func TestP15_2Forgotten(t *testing.T) {
	p, _, err := code.Compile(`local held = {} local function make() local l = {} for i = 1, 200 do l[i] = create(function() end) end end for k = 1, 10 do make() collect() for i = 1, 200 do held[#held + 1] = {} end end`)
	if err != api.OK {
		t.Fatal(err)
	}
	m, err := New(p, api.MaxCells)
	if err != api.OK {
		t.Fatal(err)
	}
	most := 0
	for m.Step(50) == 50 {
		most = max(most, len(m.coroutines))
	}
	if m.Verdict() != api.Done || most < 200 || most > 600 {
		t.Errorf("verdict %d, %d coroutines are known", m.Verdict(), most)
	}
}

/- What the document's Is and place do. -/
import Derived.Test.YtnagpedkmfmniaaArRIs
namespace Go.Proofs.Ytnagpedkmfmniaa.Ar
open Go.RowKit Go.Proofs.Ytnagpedkmfmniaa.Ha

set_option maxRecDepth 100000 in
set_option maxHeartbeats 1000000 in
/-- THE DOCUMENT's Is. -/
theorem ris_any (x : Wh) (a : Ar) (w : World) (HS : Hid (Sm a)) (HH : Hid (HasA w x a)) :
    Calls Try.prog 17 #[(.agg #[.slice x.t.o x.t.n x.t.c, .slice x.f.o x.f.n x.f.c])] w fun e w' => e = .returned (.bool (okA a)) ∧ Below w.heap.size w w' := by
  have HTN := hid HH.out.tn
  have HFN := hid HH.out.fn
  by_cases h1 : 1 ≤ x.t.n
  · by_cases h2 : x.t.n ≤ 64
    · by_cases h3 : 1 ≤ x.f.n
      · by_cases h4 : x.f.n ≤ 64
        · obtain ⟨⟨xo, tn, tc⟩, ⟨fo, fn, fc⟩⟩ := x
          exact ris_in xo fo tn tc fn fc a w HS HH h1 h2 h3 h4
        · have HR := hid (okA_no (a := a) (fun h => h4 (by have := h.f1; have := HFN.out; omega)))
          go_enter Try.func17, Try.ntmps17
          go_wp2
          go_ret
          exact ⟨ret_bool HR.out.symm, alloc_below _ _⟩
      · have HR := hid (okA_no (a := a) (fun h => h3 (by have := h.f0; have := HFN.out; omega)))
        go_enter Try.func17, Try.ntmps17
        go_wp2
        go_ret
        exact ⟨ret_bool HR.out.symm, alloc_below _ _⟩
    · have HR := hid (okA_no (a := a) (fun h => h2 (by have := h.t1; have := HTN.out; omega)))
      go_enter Try.func17, Try.ntmps17
      go_wp2
      go_ret
      exact ⟨ret_bool HR.out.symm, alloc_below _ _⟩
  · have HR := hid (okA_no (a := a) (fun h => h1 (by have := h.t0; have := HTN.out; omega)))
    go_enter Try.func17, Try.ntmps17
    go_wp2
    go_ret
    exact ⟨ret_bool HR.out.symm, alloc_below _ _⟩
/-- Whether the arena may be, and there is such a place. -/
def plcB (a : Ar) (p : Int) : Bool := decide (okA a = true ∧ 0 ≤ p ∧ p < a.ts.length)
theorem plc_iff {a : Ar} {p : Int} : plcB a p = true ↔ (Ok a ∧ 0 ≤ p ∧ p < a.ts.length) := by unfold plcB; rw [decide_eq_true_iff, okA_iff]
theorem plc_yes {a : Ar} {p : Int} (h : Ok a ∧ 0 ≤ p ∧ p < a.ts.length) : plcB a p = true := plc_iff.2 h
theorem plc_no {a : Ar} {p : Int} (h : ¬ (Ok a ∧ 0 ≤ p ∧ p < a.ts.length)) : plcB a p = false := by rw [← plc_iff] at h; simpa using h
set_option maxRecDepth 100000 in
set_option maxHeartbeats 1000000 in
theorem rplace_any (x : Wh) (a : Ar) (p : Int) (w : World) (HS : Hid (Sm a)) (HH : Hid (HasA w x a)) :
    Calls Try.prog 56 #[(.agg #[.slice x.t.o x.t.n x.t.c, .slice x.f.o x.f.n x.f.c]), .int .i64 p] w fun e w' => e = .returned (.bool (plcB a p)) ∧ Below w.heap.size w w' := by
  have HTN := hid HH.out.tn
  have HB := hid (bx_new w x)
  have HI := hid (ris_any x a _ HS (HH.out.below HB.out.low))
  go_enter Try.func56, Try.ntmps56
  go_wp2_with fail
  refine HI.out.mono ?_
  rintro e w1 ⟨rfl, b1⟩
  replace HB := hid (HB.out.below b1)
  clear b1 HI
  by_cases hok : Ok a
  · rw [okA_iff.2 hok]
    obtain ⟨c0, c1, cf⟩ := HB.out.box
    by_cases h0 : 0 ≤ p
    · by_cases h1 : p < (x.t.n : Int)
      · have HR := hid (plc_yes ⟨hok, h0, by have := HTN.out; omega⟩)
        clear hok
        go_wp2_with fail
        go_ret
        exact ⟨ret_bool HR.out.symm, HB.out.low⟩
      · have HR := hid (plc_no (a := a) (p := p) (fun k => h1 (by have := k.2.2; have := HTN.out; omega)))
        clear hok
        go_wp2_with fail
        go_ret
        exact ⟨ret_bool ((decide_eq_false (by omega)).trans HR.out.symm), HB.out.low⟩
    · have HR := hid (plc_no (a := a) (p := p) (fun k => h0 k.2.1))
      clear hok
      go_wp2_with fail
      go_ret
      exact ⟨ret_bool HR.out.symm, HB.out.low⟩
  · rw [okA_no hok]
    have HR := hid (plc_no (a := a) (p := p) (fun k => hok k.1))
    clear hok
    go_wp2_with fail
    go_ret
    exact ⟨ret_bool HR.out.symm, HB.out.low⟩
end Go.Proofs.Ytnagpedkmfmniaa.Ar

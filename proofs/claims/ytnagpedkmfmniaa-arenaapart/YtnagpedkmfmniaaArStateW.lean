/- What State does. -/
import Derived.Test.YtnagpedkmfmniaaArW6
import Derived.Test.YtnagpedkmfmniaaArState
namespace Go.Proofs.Ytnagpedkmfmniaa.Ar
open Go.RowKit Go.Proofs.Ytnagpedkmfmniaa.Ha

/-- A state's word. -/
def stT : Nat → ByteArray
  | 1 => ⟨#[108, 105, 118, 101]⟩
  | 2 => ⟨#[114, 101, 116, 105, 114, 101, 100]⟩
  | 3 => ⟨#[102, 114, 101, 101]⟩
  | 4 => ⟨#[108, 105, 109, 98, 111]⟩
  | _ => ⟨#[]⟩
theorem ret_str {a b : ByteArray} (h : a = b) : Ending.returned (.string a) = .returned (.string b) := by rw [h]
set_option maxRecDepth 100000 in
set_option maxHeartbeats 2000000 in
/-- State, OF AN ARENA THAT MAY BE. -/
theorem state_any (x : Wh) (a : Ar) (p : Int) (w : World) (HO : Hid (Ok a)) (HH : Hid (HasA w x a)) :
    Calls Try.prog 19 #[(.agg #[.slice x.t.o x.t.n x.t.c, .slice x.f.o x.f.n x.f.c]), .int .i64 p] w fun e w' => e = .returned (.string (stT (stN a p))) ∧ Below w.heap.size w w' := by
  obtain ⟨⟨xo, tn, tc⟩, ⟨fo, fn, fc⟩⟩ := x
  have HTN : Hid (tn = a.ts.length) := HH.out.tn
  have HB := hid (bx_new w ⟨⟨xo, tn, tc⟩, ⟨fo, fn, fc⟩⟩)
  go_enter Try.func19, Try.ntmps19
  go_wp2_with fail
  refine (there_any ⟨⟨xo, tn, tc⟩, ⟨fo, fn, fc⟩⟩ p _).mono ?_
  rintro e w1 ⟨rfl, b1⟩
  replace HB := hid (HB.out.below b1)
  clear b1
  by_cases hin : 0 ≤ p ∧ p < (tn : Int)
  · rw [thB_yes hin]
    obtain ⟨q, rfl⟩ : ∃ q : Nat, p = (q : Int) := ⟨p.toNat, by omega⟩
    obtain ⟨q1, q2⟩ := hin
    have HIN : Hid (0 ≤ (q : Int) ∧ (q : Int) < a.ts.length) := ⟨q1, by have := HTN.out; omega⟩
    obtain ⟨ta, e, hAt⟩ := HH.out.t.at_ q (by show q < tn; omega)
    have e : xo = some ta := e
    subst e
    obtain ⟨tq, htq⟩ : ∃ tq, a.ts.getD q Th.zero = tq := ⟨_, rfl⟩
    rw [htq] at hAt
    have HTQ : Hid (at_ a.ts (q : Int) = tq) := htq
    have HAt := hid hAt
    clear htq hAt
    obtain ⟨t0, t1, t2, t3, t4, t5, t6, t7⟩ := HAt.out.below HB.out.low
    obtain ⟨c0, c1, cf⟩ := HB.out.box
    go_wp2_with fail
    refine (live_any tq _).mono ?_
    rintro e w2 ⟨rfl, b2⟩
    replace HB := hid (HB.out.below b2)
    clear b2 c0 c1 cf t0 t1 t2 t3 t4 t5 t6 t7
    cases hb : liveT tq with
    | true =>
      have HR := hid (st_live HIN.out (by rw [HTQ.out]; exact hb))
      clear hb
      go_wp2_with fail
      go_ret
      exact ⟨ret_str (by rw [HR.out]; rfl), HB.out.low⟩
    | false =>
      have HLV := hid hb
      clear hb
      obtain ⟨c0, c1, cf⟩ := HB.out.box
      go_wp2_with fail
      refine (free_any ⟨⟨some ta, tn, tc⟩, ⟨fo, fn, fc⟩⟩ a (q : Int) _ (sm_ok HO.out) (HH.out.below HB.out.low)).mono ?_
      rintro e w3 ⟨rfl, b3⟩
      replace HB := hid (HB.out.below b3)
      clear b3 c0 c1 cf
      cases hb : inB a.fr (q : Int) with
      | true =>
        have h3 := inB_iff.1 hb
        have HR := hid (st_free HIN.out (by rw [HTQ.out]; exact HLV.out) (HO.out.places _ (mem_cnt.2 h3)).ng h3)
        clear hb h3
        go_wp2_with fail
        go_ret
        exact ⟨ret_str (by rw [HR.out]; rfl), HB.out.low⟩
      | false =>
        have HC := hid (inB_not.1 hb)
        clear hb
        obtain ⟨t0, t1, t2, t3, t4, t5, t6, t7⟩ := HAt.out.below HB.out.low
        obtain ⟨c0, c1, cf⟩ := HB.out.box
        go_wp2_with fail
        refine (retired_any tq _).mono ?_
        rintro e w4 ⟨rfl, b4⟩
        replace HB := hid (HB.out.below b4)
        clear b4 c0 c1 cf t0 t1 t2 t3 t4 t5 t6 t7
        cases hb : retT tq with
        | true =>
          have HR := hid (st_gone HIN.out (by rw [HTQ.out]; exact HLV.out) (by rw [HTQ.out]; exact ret_iff.1 hb))
          clear hb
          go_wp2_with fail
          go_ret
          exact ⟨ret_str (by rw [HR.out]; rfl), HB.out.low⟩
        | false =>
          have HR := hid (st_limbo HIN.out (by rw [HTQ.out]; exact HLV.out) (by rw [HTQ.out]; exact ret_not.1 hb) HC.out)
          clear hb
          go_wp2_with fail
          go_ret
          exact ⟨ret_str (by rw [HR.out]; rfl), HB.out.low⟩
  · rw [thB_no hin]
    have HR : Hid (stN a p = 0) := st_out (fun h => hin ⟨h.1, by have := h.2; have := HTN.out; omega⟩)
    clear hin
    go_wp2_with fail
    go_ret
    exact ⟨ret_str (by rw [HR.out]; rfl), HB.out.low⟩
end Go.Proofs.Ytnagpedkmfmniaa.Ar

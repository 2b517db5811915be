/- What small does. -/
import Derived.Test.YtmnkbkhfonngeaaHiW5
namespace Go.Proofs.Ytmnkbkhfonngeaa.Hi
open Go.RowKit

/-- Not too long. -/
def smB (h : Hs) : Bool := decide (h.s.length ≤ 60 ∧ h.e.length ≤ 60 ∧ ∀ e ∈ h.e, e.l.length ≤ 10)
theorem smB_iff {h : Hs} : smB h = true ↔ h.s.length ≤ 60 ∧ h.e.length ≤ 60 ∧ ∀ e ∈ h.e, e.l.length ≤ 10 := by simp [smB]
theorem smB_not {h : Hs} : smB h = false ↔ ¬ (h.s.length ≤ 60 ∧ h.e.length ≤ 60 ∧ ∀ e ∈ h.e, e.l.length ≤ 10) := by rw [← smB_iff]; simp
theorem mem_E {l : List Ev} {e : Ev} (h : e ∈ l) : ∃ i, i < l.length ∧ E l i = e := by
  obtain ⟨i, hi, rfl⟩ := List.mem_iff_getElem.1 h
  exact ⟨i, hi, by simp [E, List.getD, hi]⟩
theorem E_mem {l : List Ev} {i : Nat} (h : i < l.length) : E l i ∈ l := by
  have e : E l i = l[i] := by simp [E, List.getD, h]
  rw [e]
  exact List.getElem_mem h
set_option maxRecDepth 100000 in
set_option maxHeartbeats 1000000 in
theorem small_in (so eo : Option Addr) (sn sc en ec : Nat) (h : Hs) (w : World) (HH : Hid (HasH w ⟨⟨so, sn, sc⟩, ⟨eo, en, ec⟩⟩ h)) :
    Calls Try.prog 8 #[.agg #[.slice so sn sc, .slice eo en ec]] w fun e w' => e = .returned (.bool (smB h)) ∧ Below w.heap.size w w' := by
  have HN1 : Hid (sn = h.s.length) := HH.out.s.len
  have HN3 : Hid (en = h.e.length) := HH.out.e.len
  go_enter Try.func8, Try.ntmps8
  go_upto_region 1 with fail
  have HT : Hid (Hb (w.alloc (.cells #[.slice so sn sc, .slice eo en ec] 25)) w.heap.size ⟨⟨so, sn, sc⟩, ⟨eo, en, ec⟩⟩) := hb_new w ⟨⟨so, sn, sc⟩, ⟨eo, en, ec⟩⟩
  have HB := hid (alloc_below w (.cells #[.slice so sn sc, .slice eo en ec] 25))
  generalize w.alloc (.cells #[.slice so sn sc, .slice eo en ec] 25) = W at HT HB ⊢
  have c0 : W.cell? ⟨w.heap.size, 0, none⟩ = some (.slice so sn sc) := HT.out.c0
  have c1 : W.cell? ⟨w.heap.size, 1, none⟩ = some (.slice eo en ec) := HT.out.c1
  by_cases h1 : (sn : Int) > 60
  · have HR : Hid (smB h = false) := smB_not.2 (by have := HN1.out; omega)
    go_wp2_with fail
    go_ret
    exact ⟨ret_bool HR.out.symm, HB.out⟩
  · by_cases h2 : (en : Int) > 60
    · have HR : Hid (smB h = false) := smB_not.2 (by have := HN3.out; omega)
      go_wp2_with fail
      go_ret
      exact ⟨ret_bool HR.out.symm, HB.out⟩
    · go_wp2_with fail
      go_loop [3] (fun i => ∃ q : Nat, q ≤ en ∧ i = .int .i64 q ∧ Hid (∀ j, j < q → (E h.e j).l.length ≤ 10)) (fun i => en - (intOf i).toNat)
      case atStart => exact ⟨0, Nat.zero_le _, rfl, fun c hc => absurd hc (by omega)⟩
      case round =>
        obtain ⟨q, hq, rfl, HG⟩ := hrel
        by_cases hlt : q < en
        · have i1 : (0 : Int) ≤ (q : Int) := by omega
          have i2 : (q : Int) < (en : Int) := by omega
          obtain ⟨xs, exs, hxs⟩ := (HH.out.below HB.out).e
          have hqx : q < xs.length := by have h9 := HN3.out; rw [← exs, List.length_map] at h9; omega
          obtain ⟨a, ea, ca⟩ := atE_of hxs.has.row q hqx
          obtain rfl : eo = some a := ea
          have HL : Hid ((xs.getD q (e0, nilH)).2.n = (E h.e q).l.length) := by
            unfold Hid
            rw [(hxs.one hqx).len, ← exs, E_map hqx]
          have c11 := ca.c11
          generalize (xs.getD q (e0, nilH)).2 = u at HL c11
          clear ca exs hxs hqx
          by_cases h3 : (u.n : Int) > 10
          · have HR : Hid (smB h = false) := smB_not.2 (fun g => by
              have := g.2.2 _ (E_mem (i := q) (by have := HN3.out; omega))
              have := HL.out
              omega)
            go_wp2_with fail
            go_ret
            exact ⟨ret_bool HR.out.symm, HB.out⟩
          · have h3n : ¬ (10 < u.n) := by omega
            have HG2 : Hid (∀ j, j < q + 1 → (E h.e j).l.length ≤ 10) := fun j hj => by
              rcases Nat.lt_or_ge j q with y | y
              · exact HG.out j y
              · obtain rfl : j = q := by omega
                have := HL.out
                omega
            go_wp2_with fail
            go_round
            case rel => exact ⟨q + 1, by omega, by go_num, HG2⟩
            case measure => simp [intOf]; omega
        · obtain rfl : en = q := by omega
          have HR : Hid (smB h = true) := smB_iff.2 ⟨by have := HN1.out; omega, by have := HN3.out; omega, fun e he => by
            obtain ⟨i, hi, rfl⟩ := mem_E he
            exact HG.out i (by have := HN3.out; omega)⟩
          go_wp2_with fail
          go_ret
          exact ⟨ret_bool HR.out.symm, HB.out⟩
theorem small_any (x : Hh) (h : Hs) (w : World) (HH : Hid (HasH w x h)) :
    Calls Try.prog 8 #[(.agg #[.slice x.s.o x.s.n x.s.c, .slice x.e.o x.e.n x.e.c])] w fun e w' => e = .returned (.bool (smB h)) ∧ Below w.heap.size w w' := small_in x.s.o x.e.o x.s.n x.s.c x.e.n x.e.c h w HH
end Go.Proofs.Ytmnkbkhfonngeaa.Hi

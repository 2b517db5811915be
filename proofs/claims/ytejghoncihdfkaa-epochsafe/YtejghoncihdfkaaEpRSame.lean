/- What the document's Same does. -/
import Derived.Test.YtejghoncihdfkaaEpWst
namespace Go.Proofs.Ytejghoncihdfkaa.Ep
open Go.RowKit

/-- Whether two are the same. -/
def sameB (e f : E) : Bool := decide (e.now = f.now) && (decide (e.pins = f.pins) && decide (e.lim = f.lim))
theorem same_iff {e f : E} : sameB e f = true ↔ e = f := by
  obtain ⟨n, p, l⟩ := e
  obtain ⟨n', p', l'⟩ := f
  simp [sameB]
theorem same_not {e f : E} (h : e ≠ f) : sameB e f = false := by
  cases hh : sameB e f with
  | false => rfl
  | true => exact absurd (same_iff.1 hh) h
theorem same_self (e : E) : sameB e e = true := same_iff.2 rfl
theorem list_eq {α : Type} {a b : List α} (d : α) (hl : a.length = b.length) (h : ∀ j, j < a.length → a.getD j d = b.getD j d) : a = b := by
  apply List.ext_getElem hl
  intro i h1 h2
  have := h i h1
  rwa [get_lt h1, get_lt h2] at this
/-- Two boxes of arguments, in each world. -/
structure B2 (w wr : World) (n m : Int) (y z : WE) : Prop where
  low : Below w.heap.size w wr
  a : InE wr w.heap.size n y
  b : InE wr (w.heap.size + 1) m z
theorem b2_start (w : World) (n m : Int) (y z : WE) (T : TypeId) : B2 w ((w.alloc (.cells #[.int .i64 n, .slice y.p.o y.p.n y.p.c, .slice y.l.o y.l.n y.l.c] T)).alloc (.cells #[.int .i64 m, .slice z.p.o z.p.n z.p.c, .slice z.l.o z.l.n z.l.c] T)) n m y z := by
  refine ⟨q_alloc (alloc_below _ _) _, (inE_new w n y T).below (alloc_below _ _), ?_⟩
  have := inE_new (w.alloc (.cells #[.int .i64 n, .slice y.p.o y.p.n y.p.c, .slice y.l.o y.l.n y.l.c] T)) m z T
  simpa using this
theorem B2.below {w wr w' : World} {n m : Int} {y z : WE} (h : B2 w wr n m y z) (k : Below wr.heap.size wr w') : B2 w w' n m y z := ⟨q_trans h.low k, h.a.below k, h.b.below k⟩
theorem InE.always {w : World} {b : Nat} {n : Int} {y : WE} (h : InE w b n y) : (∀ g : Later w, g.now.cell? ⟨b, 0, none⟩ = some (.int .i64 n)) ∧ (∀ g : Later w, g.now.cell? ⟨b, 1, none⟩ = some (.slice y.p.o y.p.n y.p.c)) ∧ (∀ g : Later w, g.now.cell? ⟨b, 2, none⟩ = some (.slice y.l.o y.l.n y.l.c)) := ⟨fun g => g.cell h.c0, fun g => g.cell h.c1, fun g => g.cell h.c2⟩
section
variable {w : World}
theorem HasW.later {ao : Option Addr} {n cap : Nat} {l : List W} (h : HasW w ao n cap l) (g : Later w) : HasW g.now ao n cap l := h.below g.low
theorem is_wst {ao bo : Option Addr} {n m cap cap' : Nat} {la lb : List W} {r : Bool} (hs : n ≤ 1000) (hA : HasW w ao n cap la) (hB : HasW w bo m cap' lb) (hr : decide (la = lb) = r) : Calls Try.prog 31 #[.slice ao n cap, .slice bo m cap'] w fun e w' => e = .returned (.bool r) ∧ Below w.heap.size w w' := hr ▸ wst_any ao bo n m cap cap' la lb w (by omega) hA hB
end
set_option maxRecDepth 100000 in
set_option maxHeartbeats 4000000 in
/-- Of lists of the same lengths. -/
theorem rsame_len (po lo po' lo' : Option Addr) (P L pc lc pc' lc' : Nat) (e f : E) (Av Av' : Nat → Prop) (w : World) (HS : Hid (Sm e)) (HE : Hid (HasE w Av ⟨⟨po, P, pc⟩, ⟨lo, L, lc⟩⟩ e)) (HF : Hid (HasE w Av' ⟨⟨po', P, pc'⟩, ⟨lo', L, lc'⟩⟩ f)) (hn : e.now = f.now) :
    Calls Try.prog 15 #[(.agg #[.int .i64 e.now, .slice (⟨⟨po, P, pc⟩, ⟨lo, L, lc⟩⟩ : WE).p.o (⟨⟨po, P, pc⟩, ⟨lo, L, lc⟩⟩ : WE).p.n (⟨⟨po, P, pc⟩, ⟨lo, L, lc⟩⟩ : WE).p.c, .slice (⟨⟨po, P, pc⟩, ⟨lo, L, lc⟩⟩ : WE).l.o (⟨⟨po, P, pc⟩, ⟨lo, L, lc⟩⟩ : WE).l.n (⟨⟨po, P, pc⟩, ⟨lo, L, lc⟩⟩ : WE).l.c]), (.agg #[.int .i64 f.now, .slice (⟨⟨po', P, pc'⟩, ⟨lo', L, lc'⟩⟩ : WE).p.o (⟨⟨po', P, pc'⟩, ⟨lo', L, lc'⟩⟩ : WE).p.n (⟨⟨po', P, pc'⟩, ⟨lo', L, lc'⟩⟩ : WE).p.c, .slice (⟨⟨po', P, pc'⟩, ⟨lo', L, lc'⟩⟩ : WE).l.o (⟨⟨po', P, pc'⟩, ⟨lo', L, lc'⟩⟩ : WE).l.n (⟨⟨po', P, pc'⟩, ⟨lo', L, lc'⟩⟩ : WE).l.c])] w fun r w' => r = .returned (.bool (sameB e f)) ∧ Below w.heap.size w w' := by
  obtain ⟨n, hn2⟩ : ∃ n, f.now = n := ⟨_, rfl⟩
  rw [hn, hn2]
  have HN : Hid (e.now = f.now) := hn
  have HP : Hid (P = e.pins.length ∧ P = f.pins.length ∧ L = e.lim.length ∧ L = f.lim.length) := ⟨HE.out.pn, HF.out.pn, HE.out.ln, HF.out.ln⟩
  have p70 : P ≤ 70 := by have := HS.out.p; have := HP.out.1; omega
  have l70 : L ≤ 70 := by have := HS.out.l; have := HP.out.2.2.1; omega
  clear hn hn2
  have b0 : (n != n) = false := by simp
  have b1 : ((P : Int) != (P : Int)) = false := by simp
  have b2 : ((L : Int) != (L : Int)) = false := by simp
  go_enter Try.func15, Try.ntmps15
  go_wp2_with fail
  have HB := hid (b2_start w n n ⟨⟨po, P, pc⟩, ⟨lo, L, lc⟩⟩ ⟨⟨po', P, pc'⟩, ⟨lo', L, lc'⟩⟩ 25)
  go_loopw [5] (fun i wr => ∃ k : Nat, k ≤ P ∧ i = .int .i64 k ∧ Hid (∀ j, j < k → e.pins.getD j 0 = f.pins.getD j 0) ∧ Hid (B2 w wr n n ⟨⟨po, P, pc⟩, ⟨lo, L, lc⟩⟩ ⟨⟨po', P, pc'⟩, ⟨lo', L, lc'⟩⟩)) (fun i _ => P - (intOf i).toNat)
  case atStart => exact ⟨0, Nat.zero_le _, rfl, fun j hj => absurd hj (by omega), HB⟩
  case round =>
    obtain ⟨k, hk, rfl, HU, HW⟩ := hrel
    clear HB
    obtain ⟨x0, x1, x2, xf⟩ := HW.out.a
    obtain ⟨z0, z1, z2, zf⟩ := HW.out.b
    by_cases hlt : k < P
    · have i1 : (0 : Int) ≤ (k : Int) := by omega
      have i2 : (k : Int) < (P : Int) := by omega
      obtain ⟨a, ea, ca⟩ := (HE.out.below HW.out.low).pin k (by have := HP.out; omega)
      obtain ⟨b, eb, cb⟩ := (HF.out.below HW.out.low).pin k (by have := HP.out; omega)
      obtain rfl : po = some a := ea
      obtain rfl : po' = some b := eb
      obtain ⟨u, hu⟩ : ∃ u, e.pins.getD k 0 = u := ⟨_, rfl⟩
      obtain ⟨v, hv⟩ : ∃ v, f.pins.getD k 0 = v := ⟨_, rfl⟩
      rw [hu] at ca
      rw [hv] at cb
      have HUu := hid hu
      have HVv := hid hv
      clear hu hv
      by_cases huv : u = v
      · have d := bne_no huv
        have HUV := hid huv
        clear huv
        go_wp2_with fail
        go_quiet (fail)
        go_wp2
        go_roundw
        case rel =>
          refine ⟨k + 1, by omega, by go_num, fun j hj => ?_, HW.out.below (q_drewN (Below.refl _ _) _)⟩
          by_cases e1 : j = k
          · subst e1; rw [HUu.out, HVv.out, HUV.out]
          · exact HU.out j (by omega)
        case measure => simp [intOf]; omega
      · have d := bne_yes huv
        have HNo : Hid (sameB e f = false) := same_not (fun h => huv (by rw [← HUu.out, ← HVv.out, h]))
        clear huv
        go_wp2_with fail
        go_quiet (fail)
        go_wp2
        go_ret
        exact ⟨ret_bool HNo.out.symm, (HW.out.below (q_drewN (Below.refl _ _) _)).low⟩
    · have HPe : Hid (e.pins = f.pins) := list_eq 0 (by have := HP.out; omega) (fun j hj => HU.out j (by have := HP.out; omega))
      go_wp2_with fail
      obtain ⟨W0, rfl⟩ : ∃ W0, W0 = wr := ⟨_, rfl⟩
      clear x0 x1 x2 xf z0 z1 z2 zf
      go_loopw [6] (fun i wq => ∃ k : Nat, k ≤ L ∧ i = .int .i64 k ∧ Hid (∀ j, j < k → e.lim.getD j [] = f.lim.getD j []) ∧ Hid (B2 w wq n n ⟨⟨po, P, pc⟩, ⟨lo, L, lc⟩⟩ ⟨⟨po', P, pc'⟩, ⟨lo', L, lc'⟩⟩)) (fun i _ => L - (intOf i).toNat)
      case atStart => exact ⟨0, Nat.zero_le _, rfl, fun j hj => absurd hj (by omega), HW⟩
      case round =>
        obtain ⟨i, hi, rfl, HUi, HWi⟩ := hrel
        obtain ⟨x0, x1, x2, xf⟩ := HWi.out.a
        obtain ⟨z0, z1, z2, zf⟩ := HWi.out.b
        by_cases hil : i < L
        · have j1 : (0 : Int) ≤ (i : Int) := by omega
          have j2 : (i : Int) < (L : Int) := by omega
          obtain ⟨a, o1, m1, c1, ea, ca, hA, _⟩ := (HE.out.below HWi.out.low).list i (by have := HP.out; omega)
          obtain ⟨b, o2, m2, c2, eb, cb, hB, _⟩ := (HF.out.below HWi.out.low).list i (by have := HP.out; omega)
          obtain rfl : lo = some a := ea
          obtain rfl : lo' = some b := eb
          have HA := hid hA
          have HBb := hid hB
          have hm1 : Hid (m1 ≤ 1000) := by have := HS.out.each i (by have := HP.out; omega); rw [← HA.out.len] at this; unfold Hid; omega
          obtain ⟨f0, f1, f2⟩ := HWi.out.a.always
          obtain ⟨g0, g1, g2⟩ := HWi.out.b.always
          have f3 : ∀ g : Later wr, g.now.cell? (a.add i) = some (.slice o1 m1 c1) := fun g => g.cell ca
          have f4 : ∀ g : Later wr, g.now.cell? (b.add i) = some (.slice o2 m2 c2) := fun g => g.cell cb
          have hne : Nonempty (Later wr) := ⟨⟨wr, Below.refl _ _⟩⟩
          clear hA hB ca cb
          cases hr : decide (e.lim.getD i [] = f.lim.getD i []) with
          | true =>
            have HR := hid hr
            have HRe := hid (show e.lim.getD i [] = f.lim.getD i [] from of_decide_eq_true hr)
            clear hr
            go_wp2_with fail
            refine wp_region_later (by kernel_rfl) (by kernel_rfl) ?_
            repeat (go_big_quiet_step (first | (go_at_call 31; exact later_call (is_wst hm1.out (HA.out.later _) (HBb.out.later _) HR.out))))
            refine wpQuiet_nil ?_
            rintro w9 ⟨⟨_, b9⟩, rfl⟩
            have HW9 := hid (HWi.out.below b9)
            clear f0 f1 f2 f3 f4 g0 g1 g2 hne b9 x0 x1 x2 xf z0 z1 z2 zf
            go_wp2_with fail
            go_roundw
            case rel =>
              refine ⟨i + 1, by omega, by go_num, fun j hj => ?_, HW9⟩
              by_cases e1 : j = i
              · subst e1; exact HRe.out
              · exact HUi.out j (by omega)
            case measure => simp [intOf]; omega
          | false =>
            have HR := hid hr
            have HNo : Hid (sameB e f = false) := same_not (fun h => absurd (show e.lim.getD i [] = f.lim.getD i [] by rw [h]) (of_decide_eq_false hr))
            clear hr
            go_wp2_with fail
            refine wp_region_later (by kernel_rfl) (by kernel_rfl) ?_
            repeat (go_big_quiet_step (first | (go_at_call 31; exact later_call (is_wst hm1.out (HA.out.later _) (HBb.out.later _) HR.out))))
            refine wpQuiet_nil ?_
            rintro w9 ⟨⟨_, b9⟩, rfl⟩
            have HW9 := hid (HWi.out.below b9)
            clear f0 f1 f2 f3 f4 g0 g1 g2 hne b9 x0 x1 x2 xf z0 z1 z2 zf
            go_wp2_with fail
            go_ret
            exact ⟨ret_bool HNo.out.symm, HW9.out.low⟩
        · have HYes : Hid (sameB e f = true) := by
            have h1 := HN.out
            have h2 := HPe.out
            have h3 : e.lim = f.lim := list_eq [] (by have := HP.out; omega) (fun j hj => HUi.out j (by have := HP.out; omega))
            refine same_iff.2 ?_
            cases e
            cases f
            simp only at h1 h2 h3
            rw [h1, h2, h3]
          go_wp2_with fail
          go_ret
          exact ⟨ret_bool HYes.out.symm, HWi.out.low⟩
set_option maxRecDepth 100000 in
set_option maxHeartbeats 4000000 in
/-- SAME (the document's). -/
theorem rsame_any (y z : WE) (e f : E) (Av Av' : Nat → Prop) (w : World) (HS : Hid (Sm e)) (HE : Hid (HasE w Av y e)) (HF : Hid (HasE w Av' z f)) :
    Calls Try.prog 15 #[(.agg #[.int .i64 e.now, .slice y.p.o y.p.n y.p.c, .slice y.l.o y.l.n y.l.c]), (.agg #[.int .i64 f.now, .slice z.p.o z.p.n z.p.c, .slice z.l.o z.l.n z.l.c])] w fun r w' => r = .returned (.bool (sameB e f)) ∧ Below w.heap.size w w' := by
  obtain ⟨⟨po, P, pc⟩, ⟨lo, L, lc⟩⟩ := y
  obtain ⟨⟨po', P', pc'⟩, ⟨lo', L', lc'⟩⟩ := z
  have e1 : P = e.pins.length := HE.out.pn
  have e2 : L = e.lim.length := HE.out.ln
  have e3 : P' = f.pins.length := HF.out.pn
  have e4 : L' = f.lim.length := HF.out.ln
  by_cases hn : e.now = f.now
  · by_cases hp : P = P'
    · by_cases hl : L = L'
      · subst hp hl
        exact rsame_len po lo po' lo' P L pc lc pc' lc' e f Av Av' w HS HE HF hn
      · have HNo : Hid (sameB e f = false) := same_not (fun h => hl (by rw [e2, e4, h]))
        have b2 : ((L : Int) != (L' : Int)) = true := by simp; omega
        subst hp
        have b1 : ((P : Int) != (P : Int)) = false := by simp
        obtain ⟨n, hn2⟩ : ∃ n, f.now = n := ⟨_, rfl⟩
        rw [hn, hn2]
        have b0 : (n != n) = false := by simp
        clear e1 e2 e3 e4 hn hn2 hl HS HE HF
        go_enter Try.func15, Try.ntmps15
        go_wp2_with fail
        go_ret
        exact ⟨ret_bool HNo.out.symm, q_alloc (alloc_below _ _) _⟩
    · have HNo : Hid (sameB e f = false) := same_not (fun h => hp (by rw [e1, e3, h]))
      have b1 : ((P : Int) != (P' : Int)) = true := by simp; omega
      obtain ⟨n, hn2⟩ : ∃ n, f.now = n := ⟨_, rfl⟩
      rw [hn, hn2]
      have b0 : (n != n) = false := by simp
      clear e1 e2 e3 e4 hn hn2 hp HS HE HF
      go_enter Try.func15, Try.ntmps15
      go_wp2_with fail
      go_ret
      exact ⟨ret_bool HNo.out.symm, q_alloc (alloc_below _ _) _⟩
  · have HNo : Hid (sameB e f = false) := same_not (fun h => hn (by rw [h]))
    have b0 := bne_yes hn
    obtain ⟨n, hn2⟩ : ∃ n, e.now = n := ⟨_, rfl⟩
    obtain ⟨m, hm2⟩ : ∃ m, f.now = m := ⟨_, rfl⟩
    rw [hn2, hm2] at b0 ⊢
    clear e1 e2 e3 e4 hn hn2 hm2 HS HE HF
    go_enter Try.func15, Try.ntmps15
    go_wp2_with fail
    go_ret
    exact ⟨ret_bool HNo.out.symm, q_alloc (alloc_below _ _) _⟩
end Go.Proofs.Ytejghoncihdfkaa.Ep

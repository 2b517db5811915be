/- What slices.Equal, slices.EqualFunc and Same do; the document's Same. -/
import Derived.Test.YtnagpedkmfmniaaArW6
import Derived.Test.YtnagpedkmfmniaaHaW2
import Derived.Laws.StructEq
import Derived.Deep.RegionHeld3
namespace Go.Proofs.Ytnagpedkmfmniaa.Ar
open Go.RowKit Go.Proofs.Ytnagpedkmfmniaa.Ha

def eqTh (c d : Th) : Bool := c.ty == d.ty && (c.gen == d.gen && (c.refs == d.refs && (c.st == d.st && (c.sz == d.sz && (c.wa == d.wa && (c.fm == d.fm && c.va == d.va))))))
theorem eqTh_iff {c d : Th} : eqTh c d = true ↔ c = d := by
  constructor
  · intro h
    simp [eqTh] at h
    exact Th.ext' h.1 h.2.1 h.2.2.1 h.2.2.2.1 h.2.2.2.2.1 h.2.2.2.2.2.1 h.2.2.2.2.2.2.1 h.2.2.2.2.2.2.2
  · rintro rfl
    simp [eqTh]
theorem eq8 (c d : Th) (w : World) : (Op.equalIn 10000 40 (.agg #[.int .i64 c.ty, .int .i64 c.gen, .int .i64 c.refs, .int .i64 c.st, .int .i64 c.sz, .int .i64 c.wa, .int .i64 c.fm, .int .i64 c.va]) (.agg #[.int .i64 d.ty, .int .i64 d.gen, .int .i64 d.refs, .int .i64 d.st, .int .i64 d.sz, .int .i64 d.wa, .int .i64 d.fm, .int .i64 d.va])).run Try.prog w = .ok (eqTh c d) w := by
  have u3 := Try.underlying3
  have a3 := Try.isAgg3
  have z3 := Try.sizeOf3
  have hS : Try.prog.underlying 40 = some (.struct (Try.prog.fieldsOf 40)) := by kernel_rfl
  rw [show (10000 : Nat) = 9999 + 1 from rfl, run_equalIn_agg w 9999 40 _ _ hS (by kernel_rfl)]
  simp only [Program.fieldsOf, Try.underlying40]
  go_simp
  unfold eqTh
  by_cases h1 : c.ty = d.ty
  · by_cases h2 : c.gen = d.gen
    · by_cases h3 : c.refs = d.refs
      · by_cases h4 : c.st = d.st
        · by_cases h5 : c.sz = d.sz
          · by_cases h6 : c.wa = d.wa
            · by_cases h7 : c.fm = d.fm
              · by_cases h8 : c.va = d.va <;> simp [h1, h2, h3, h4, h5, h6, h7, h8]
              · simp [h1, h2, h3, h4, h5, h6, h7]
            · simp [h1, h2, h3, h4, h5, h6]
          · simp [h1, h2, h3, h4, h5]
        · simp [h1, h2, h3, h4]
      · simp [h1, h2, h3]
    · simp [h1, h2]
  · simp [h1]
theorem eq8_yes (t : Th) (w : World) : (Op.equalIn 10000 40 (.agg #[.int .i64 t.ty, .int .i64 t.gen, .int .i64 t.refs, .int .i64 t.st, .int .i64 t.sz, .int .i64 t.wa, .int .i64 t.fm, .int .i64 t.va]) (.agg #[.int .i64 t.ty, .int .i64 t.gen, .int .i64 t.refs, .int .i64 t.st, .int .i64 t.sz, .int .i64 t.wa, .int .i64 t.fm, .int .i64 t.va])).run Try.prog w = .ok true w := by rw [eq8, eqTh_iff.2 rfl]
theorem eq8_no {c d : Th} (h : c ≠ d) (w : World) : (Op.equalIn 10000 40 (.agg #[.int .i64 c.ty, .int .i64 c.gen, .int .i64 c.refs, .int .i64 c.st, .int .i64 c.sz, .int .i64 c.wa, .int .i64 c.fm, .int .i64 c.va]) (.agg #[.int .i64 d.ty, .int .i64 d.gen, .int .i64 d.refs, .int .i64 d.st, .int .i64 d.sz, .int .i64 d.wa, .int .i64 d.fm, .int .i64 d.va])).run Try.prog w = .ok false w := by
  rw [eq8]
  have : eqTh c d = false := by rw [← Bool.not_eq_true, eqTh_iff]; exact h
  rw [this]
set_option maxRecDepth 100000 in
set_option maxHeartbeats 1000000 in
/-- slices.Equal of the same things. -/
theorem equalT_yes (ao bo : Option Addr) (n cap cap' : Nat) (l : List Th) (w : World) (hs : n ≤ 1000) (HA : Hid (HasT w ao n cap l)) (HB : Hid (HasT w bo n cap' l)) :
    Calls Try.prog 37 #[.slice ao n cap, .slice bo n cap'] w fun e w' => e = .returned (.bool true) ∧ Below w.heap.size w w' := by
  go_enter Try.func37, Try.ntmps37
  go_wp2
  go_loopw [13] (fun i wr => ∃ k : Nat, k ≤ n ∧ i = .int .i64 k ∧ ∃ nd, wr = w.drewN nd) (fun i _ => n - (intOf i).toNat)
  case atStart => exact ⟨0, Nat.zero_le _, rfl, 0, rfl⟩
  case round =>
    obtain ⟨k, hk, rfl, nd, rfl⟩ := hrel
    by_cases hlt : k < n
    · have i1 : (0 : Int) ≤ (k : Int) := by omega
      have i2 : (k : Int) < (n : Int) := by omega
      obtain ⟨a, rfl, ca⟩ := HA.out.at_ k hlt
      obtain ⟨b, rfl, cb⟩ := HB.out.at_ k hlt
      obtain ⟨x, hx⟩ : ∃ x, l.getD k Th.zero = x := ⟨_, rfl⟩
      rw [hx] at ca cb
      clear hx
      obtain ⟨a0, a1, a2, a3, a4, a5, a6, a7⟩ := ca
      obtain ⟨b0, b1, b2, b3, b4, b5, b6, b7⟩ := cb
      have q := eq8_yes x
      go_wp2
      go_quiet (fail)
      go_wp2
      go_roundw
      case rel => exact ⟨k + 1, by omega, by go_num, _, rfl⟩
      case measure => simp [intOf]; omega
    · obtain rfl : k = n := by omega
      go_wp2
      go_ret
      exact ⟨rfl, q_drewN (Below.refl _ _) _⟩
theorem take_same {l m : List Int} {k : Nat} (h : l.take k = m.take k) (hl : k < l.length) (hm : k < m.length) (he : l.getD k 0 = m.getD k 0) : l.take (k + 1) = m.take (k + 1) := by
  rw [List.take_add_one, List.take_add_one, h, List.getElem?_eq_getElem hl, List.getElem?_eq_getElem hm]
  have : l[k] = m[k] := by simpa [List.getD, hl, hm] using he
  rw [this]
set_option maxRecDepth 100000 in
set_option maxHeartbeats 1000000 in
/-- slices.Equal of numbers. -/
theorem equal_any (ao bo : Option Addr) (n m cap cap' : Nat) (l l' : List Int) (w : World) (hs : n ≤ 1000) (HA : Hid (Has w ao n cap l)) (HB : Hid (Has w bo m cap' l')) :
    Calls Try.prog 36 #[.slice ao n cap, .slice bo m cap'] w fun e w' => e = .returned (.bool (decide (l = l'))) ∧ Below w.heap.size w w' := by
  by_cases hnm : n = m
  · subst hnm
    go_enter Try.func36, Try.ntmps36
    go_wp2
    go_loopw [13] (fun i wr => ∃ k : Nat, k ≤ n ∧ i = .int .i64 k ∧ Hid (l.take k = l'.take k) ∧ ∃ nd, wr = w.drewN nd) (fun i _ => n - (intOf i).toNat)
    case atStart => exact ⟨0, Nat.zero_le _, rfl, by simp [Hid], 0, rfl⟩
    case round =>
      obtain ⟨k, hk, rfl, HT, nd, rfl⟩ := hrel
      by_cases hlt : k < n
      · have i1 : (0 : Int) ≤ (k : Int) := by omega
        have i2 : (k : Int) < (n : Int) := by omega
        obtain ⟨a, rfl, ca⟩ := HA.out.cell k hlt
        obtain ⟨b, rfl, cb⟩ := HB.out.cell k hlt
        obtain ⟨x, hx⟩ : ∃ x, l.getD k 0 = x := ⟨_, rfl⟩
        obtain ⟨y, hy⟩ : ∃ y, l'.getD k 0 = y := ⟨_, rfl⟩
        rw [hx] at ca
        rw [hy] at cb
        have HX := hid hx
        have HY := hid hy
        clear hx hy
        by_cases he : x = y
        · have HT2 : Hid (l.take (k + 1) = l'.take (k + 1)) := take_same HT.out (by have := HA.out.len; omega) (by have := HB.out.len; omega) (by rw [HX.out, HY.out, he])
          subst he
          go_wp2
          go_quiet (fail)
          go_wp2
          go_roundw
          case rel => exact ⟨k + 1, by omega, by go_num, HT2, _, rfl⟩
          case measure => simp [intOf]; omega
        · have HR : Hid (decide (l = l') = false) := decide_eq_false (fun e => he (by rw [← HX.out, ← HY.out, e]))
          have e1 : (x != y) = true := by simp [he]
          have e2 := bne_of he
          clear he
          go_wp2
          go_quiet (fail)
          go_wp2
          go_ret
          exact ⟨ret_bool HR.out.symm, q_drewN (q_drewN (Below.refl _ _) _) _⟩
      · obtain rfl : k = n := by omega
        have HR : Hid (decide (l = l') = true) := decide_eq_true (by
          have := HT.out
          rwa [List.take_of_length_le (by have := HA.out.len; omega), List.take_of_length_le (by have := HB.out.len; omega)] at this)
        go_wp2
        go_ret
        exact ⟨ret_bool HR.out.symm, q_drewN (Below.refl _ _) _⟩
  · have HR : Hid (decide (l = l') = false) := decide_eq_false (fun e => hnm (by rw [HA.out.len, HB.out.len, e]))
    have e2 : ((n : Int) == (m : Int)) = false := bne_of (by omega)
    have e3 : ((n : Int) != (m : Int)) = true := by simp; omega
    clear hnm
    go_enter Try.func36, Try.ntmps36
    go_wp2
    go_ret
    exact ⟨ret_bool HR.out.symm, Below.refl _ _⟩
set_option maxHeartbeats 400000 in
theorem same1_any (ao bo : Option Addr) (n m cap cap' : Nat) (l l' : List Int) (w : World) (hs : n ≤ 1000) (HA : Hid (Has w ao n cap l)) (HB : Hid (Has w bo m cap' l')) :
    Calls Try.prog 35 #[.slice ao n cap, .slice bo m cap'] w fun e w' => e = .returned (.bool (decide (l = l'))) ∧ Below w.heap.size w w' := by
  have HI := hid (equal_any ao bo n m cap cap' l l' w hs HA HB)
  clear hs
  go_enter Try.func35, Try.ntmps35
  go_wp2_with fail
  refine HI.out.mono ?_
  rintro e w1 ⟨rfl, b1⟩
  go_wp2_with fail
  go_ret
  exact ⟨rfl, b1⟩
theorem take_sameF {l m : List (List Int)} {k : Nat} (h : l.take k = m.take k) (hl : k < l.length) (hm : k < m.length) (he : l.getD k [] = m.getD k []) : l.take (k + 1) = m.take (k + 1) := by
  rw [List.take_add_one, List.take_add_one, h, List.getElem?_eq_getElem hl, List.getElem?_eq_getElem hm]
  have : l[k] = m[k] := by simpa [List.getD, hl, hm] using he
  rw [this]
set_option maxRecDepth 100000 in
set_option maxHeartbeats 1000000 in
/-- slices.EqualFunc of lists. -/
theorem equalF_any (ao bo : Option Addr) (n m cap cap' : Nat) (hs hs' : List Hd) (fr fr' : List (List Int)) (w : World) (hn : n ≤ 1000) (HS : Hid (∀ i, (fr.getD i []).length ≤ 1000)) (HA : Hid (HasF w ao n cap hs fr)) (HB : Hid (HasF w bo m cap' hs' fr')) :
    Calls Try.prog 38 #[.slice ao n cap, .slice bo m cap', .func (.func 35) #[] #[]] w fun e w' => e = .returned (.bool (decide (fr = fr'))) ∧ Below w.heap.size w w' := by
  by_cases hnm : n = m
  · subst hnm
    go_enter Try.func38, Try.ntmps38
    go_wp2
    go_loopw [17] (fun i wr => ∃ k : Nat, k ≤ n ∧ i = .int .i64 k ∧ Hid (fr.take k = fr'.take k) ∧ Hid (Below w.heap.size w wr)) (fun i _ => n - (intOf i).toNat)
    case atStart => exact ⟨0, Nat.zero_le _, rfl, by simp [Hid], Below.refl _ _⟩
    case round =>
      obtain ⟨k, hk, rfl, HT, HW⟩ := hrel
      by_cases hlt : k < n
      · have i1 : (0 : Int) ≤ (k : Int) := by omega
        have i2 : (k : Int) < (n : Int) := by omega
        obtain ⟨a, o1, m1, d1, rfl, ca, hA⟩ := (HA.out.below HW.out).cell k hlt
        obtain ⟨b, o2, m2, d2, rfl, cb, hB⟩ := (HB.out.below HW.out).cell k hlt
        have HC := hid (same1_any o1 o2 m1 m2 d1 d2 _ _ wr (by rw [hA.len]; exact HS.out k) hA hB)
        clear hA hB
        by_cases he : fr.getD k [] = fr'.getD k []
        · have HT2 : Hid (fr.take (k + 1) = fr'.take (k + 1)) := take_sameF HT.out (by have := HA.out.len; omega) (by have := HB.out.len; omega) he
          rw [decide_eq_true he] at HC
          clear he
          go_wp2_with fail
          refine HC.out.mono ?_
          rintro e w1 ⟨rfl, b1⟩
          have HW2 := hid (q_trans HW.out b1)
          clear b1
          go_wp2_with fail
          go_roundw
          case rel => exact ⟨k + 1, by omega, by go_num, HT2, HW2⟩
          case measure => simp [intOf]; omega
        · have HR : Hid (decide (fr = fr') = false) := decide_eq_false (fun e => he (by rw [e]))
          rw [decide_eq_false he] at HC
          clear he
          go_wp2_with fail
          refine HC.out.mono ?_
          rintro e w1 ⟨rfl, b1⟩
          have HW2 := hid (q_trans HW.out b1)
          clear b1
          go_wp2_with fail
          go_ret
          exact ⟨ret_bool HR.out.symm, HW2.out⟩
      · obtain rfl : k = n := by omega
        have HR : Hid (decide (fr = fr') = true) := decide_eq_true (by
          have := HT.out
          rwa [List.take_of_length_le (by have := HA.out.len; omega), List.take_of_length_le (by have := HB.out.len; omega)] at this)
        go_wp2
        go_ret
        exact ⟨ret_bool HR.out.symm, HW.out⟩
  · have HR : Hid (decide (fr = fr') = false) := decide_eq_false (fun e => hnm (by rw [HA.out.len, HB.out.len, e]))
    have e2 : ((n : Int) == (m : Int)) = false := bne_of (by omega)
    have e3 : ((n : Int) != (m : Int)) = true := by simp; omega
    clear hnm
    go_enter Try.func38, Try.ntmps38
    go_wp2
    go_ret
    exact ⟨ret_bool HR.out.symm, Below.refl _ _⟩
/-- Two arenas' boxes. -/
structure Tw (w W : World) (x y : Wh) : Prop where
  low : Below w.heap.size w W
  b1 : InA W w.heap.size x
  b2 : InA W (w.heap.size + 1) y
theorem Tw.below {w W W' : World} {x y : Wh} (h : Tw w W x y) (b : Below W.heap.size W W') : Tw w W' x y := ⟨q_trans h.low b, h.b1.below b, h.b2.below b⟩
theorem tw_new (w : World) (x y : Wh) : Tw w ((w.alloc (.cells #[.slice x.t.o x.t.n x.t.c, .slice x.f.o x.f.n x.f.c] 25)).alloc (.cells #[.slice y.t.o y.t.n y.t.c, .slice y.f.o y.f.n y.f.c] 25)) x y := by
  refine ⟨q_alloc (alloc_below w _) _, (inA_new w x _).below (alloc_below _ _), ?_⟩
  have h := inA_new (w.alloc (.cells #[.slice x.t.o x.t.n x.t.c, .slice x.f.o x.f.n x.f.c] 25)) y 25
  rwa [show (w.alloc (.cells #[.slice x.t.o x.t.n x.t.c, .slice x.f.o x.f.n x.f.c] 25)).heap.size = w.heap.size + 1 by simp] at h
set_option maxRecDepth 100000 in
set_option maxHeartbeats 1000000 in
/-- Same, of arenas with the same things. -/
theorem same_any (x y : Wh) (ts : List Th) (fr fr' : List (List Int)) (w : World) (HS : Hid (Sm ⟨ts, fr⟩)) (HA : Hid (HasA w x ⟨ts, fr⟩)) (HB : Hid (HasA w y ⟨ts, fr'⟩)) :
    Calls Try.prog 18 #[(.agg #[.slice x.t.o x.t.n x.t.c, .slice x.f.o x.f.n x.f.c]), (.agg #[.slice y.t.o y.t.n y.t.c, .slice y.f.o y.f.n y.f.c])] w fun e w' => e = .returned (.bool (decide (fr = fr'))) ∧ Below w.heap.size w w' := by
  have hn : x.t.n ≤ 1000 := by rw [HA.out.tn]; exact HS.out.t
  have hn2 : x.f.n ≤ 1000 := by rw [HA.out.fn]; exact HS.out.f
  have hl : y.t.n = x.t.n := by rw [HA.out.tn, HB.out.tn]
  have HT := hid (tw_new w x y)
  obtain ⟨⟨xo, tn, tc⟩, ⟨fo, fn, fc⟩⟩ := x
  obtain ⟨⟨yo, ytn, ytc⟩, ⟨yfo, yfn, yfc⟩⟩ := y
  have hl : ytn = tn := hl
  subst hl
  go_enter Try.func18, Try.ntmps18
  go_wp2_with fail
  generalize (w.alloc (.cells #[.slice xo ytn tc, .slice fo fn fc] 25)).alloc (.cells #[.slice yo ytn ytc, .slice yfo yfn yfc] 25) = W at HT ⊢
  refine (equalT_yes xo yo ytn tc ytc ts W hn (HA.out.below HT.out.low).t (HB.out.below HT.out.low).t).mono ?_
  rintro e w1 ⟨rfl, b1⟩
  replace HT := hid (HT.out.below b1)
  clear b1
  obtain ⟨hs, hA⟩ := (HA.out.below HT.out.low).f
  obtain ⟨hs', hB⟩ := (HB.out.below HT.out.low).f
  have HC := hid (equalF_any fo yfo fn yfn fc yfc hs hs' fr fr' w1 hn2 HS.out.e hA hB)
  clear hA hB
  obtain ⟨c0, c1, cf⟩ := HT.out.b1
  obtain ⟨d0, d1, df⟩ := HT.out.b2
  go_wp2_with fail
  refine HC.out.mono ?_
  rintro e w2 ⟨rfl, b2⟩
  have HB2 := hid (q_trans HT.out.low b2)
  clear b2
  go_wp2_with fail
  go_ret
  exact ⟨rfl, HB2.out⟩
end Go.Proofs.Ytnagpedkmfmniaa.Ar

/- What the program's valid, there, unused, room, refused (of ghosts) do. -/
import Derived.Test.YtcldnacpddebcaaGhW2
import Derived.Test.YtcldnacpddebcaaPkA
import Derived.Test.YtcldnacpddebcaaTrWA
namespace Go.Proofs.Ytcldnacpddebcaa.Gh
open Go.RowKit
open Go.Proofs.Ytcldnacpddebcaa.Tr

def vdK (l : List P) : Int := if oks l then 0 else 2
def thG (g : Gt) (k : P) : Int := if hsB g.ks k then 0 else 7
def unG (g : Gt) (k : P) : Int := if hsB g.ks k then 8 else 0
def rmG (n : Nat) : Int := if 4096 ≤ n then 6 else 0
def rfE (g : Gt) (b : Bi) : Int :=
  if b.kind = 1 then orV [vdK [b.key], unG g b.key, rmG g.fr.length]
  else if b.kind = 2 then orV [vdK [b.key, b.fm], thG g b.fm, unG g b.key, rmG g.fr.length]
  else if b.kind = 3 then orV [vdK [b.key, b.fm], thG g b.fm, unG g b.key]
  else if b.kind = 4 then orV [vdK [b.key], thG g b.key]
  else 2
/-- WHAT IS REFUSED OF A GHOST THAT MAY BE is what Add refuses. -/
theorem rf_ok {g : Gt} (h : okB g = true) (b : Bi) : rfE g b = adE g b := by
  unfold rfE adE
  have hh : ∀ k, hasG g k = hsB g.ks k := fun k => rfl
  simp only [hh, vdK, thG, unG, rmG, oks, List.all_cons, List.all_nil, Bool.and_true, h, Bool.not_true, Bool.false_or]
  by_cases k1 : b.kind = 1
  · rcases Bool.eq_false_or_eq_true (okK b.key) with h1 | h1 <;> rcases Bool.eq_false_or_eq_true (hsB g.ks b.key) with h2 | h2 <;> by_cases h3 : 4096 ≤ g.fr.length <;> simp [k1, h1, h2, h3, two, orV]
  · by_cases k2 : b.kind = 2
    · rcases Bool.eq_false_or_eq_true (okK b.key) with h1 | h1 <;> rcases Bool.eq_false_or_eq_true (okK b.fm) with h4 | h4 <;> rcases Bool.eq_false_or_eq_true (hsB g.ks b.fm) with h5 | h5 <;> rcases Bool.eq_false_or_eq_true (hsB g.ks b.key) with h2 | h2 <;> by_cases h3 : 4096 ≤ g.fr.length <;> simp [k2, h1, h2, h3, h4, h5, two, orV]
    · by_cases k3 : b.kind = 3
      · rcases Bool.eq_false_or_eq_true (okK b.key) with h1 | h1 <;> rcases Bool.eq_false_or_eq_true (okK b.fm) with h4 | h4 <;> rcases Bool.eq_false_or_eq_true (hsB g.ks b.fm) with h5 | h5 <;> rcases Bool.eq_false_or_eq_true (hsB g.ks b.key) with h2 | h2 <;> simp [k3, h1, h2, h4, h5, two, orV]
      · by_cases k4 : b.kind = 4
        · rcases Bool.eq_false_or_eq_true (okK b.key) with h1 | h1 <;> rcases Bool.eq_false_or_eq_true (hsB g.ks b.key) with h2 | h2 <;> simp [k4, h1, h2, two, orV]
        · have h5 : b.kind < 1 ∨ 4 < b.kind := by omega
          rw [if_neg k1, if_neg k2, if_neg k3, if_neg k4]
          rcases h5 with h5 | h5 <;> simp [h5]
theorem or_add (g : Gt) (b : Bi) : orV [cgE g, rfE g b] = adE g b := by
  rcases Bool.eq_false_or_eq_true (okB g) with h | h
  · rw [← rf_ok h b]
    by_cases e : rfE g b = 0 <;> simp [orV, cgE, h, e]
  · unfold adE
    simp [orV, cgE, h]
set_option maxRecDepth 100000 in
set_option maxHeartbeats 1000000 in
theorem pvalid_any (ko : Option Addr) (m kc : Nat) (l : List P) (w : World) (hs : m ≤ 1000) (HK : Hid (HasP w ko m kc l)) :
    Calls Try.prog 56 #[.slice ko m kc] w fun e w' => e = .returned (.int .i64 (vdK l)) ∧ Below w.heap.size w w' := by
  have HN := hid HK.out.len
  go_enter Try.func56, Try.ntmps56
  go_wp2_with fail
  go_loopw [7] (fun i wr => ∃ q : Nat, q ≤ m ∧ i = .int .i64 q ∧ Hid (∀ j, j < q → okK (l.getD j (0, 0)) = true) ∧ Hid (Below w.heap.size w wr)) (fun i _ => m - (intOf i).toNat)
  case atStart => exact ⟨0, Nat.zero_le _, rfl, fun c hc => absurd hc (by omega), Below.refl _ _⟩
  case round =>
    obtain ⟨q, hq, rfl, HU, HB⟩ := hrel
    by_cases hlt : q < m
    · have i1 : (0 : Int) ≤ (q : Int) := by omega
      have i2 : (q : Int) < (m : Int) := by omega
      obtain ⟨a, rfl, ca⟩ := (HK.out.below HB.out).at q hlt
      obtain ⟨x, hx⟩ : ∃ x, l.getD q (0, 0) = x := ⟨_, rfl⟩
      have HX := hid hx
      rw [hx] at ca
      obtain ⟨f0, f1⟩ := ca
      clear hx
      have HB9 := hid (q_alloc HB.out (.cells #[.int .i64 x.1, .int .i64 x.2] 27))
      go_wp2_with fail
      cases hk : okK x with
      | false =>
        have HE : Hid (vdK l = 2) := by unfold Hid vdK; rw [oks_no (q := q) (by have := HN.out; omega) (by rw [HX.out]; exact hk)]; rfl
        refine (ocheck_no hk _).mono ?_
        clear hk
        rintro e w2 ⟨rfl, b2⟩
        have HB2 := hid (q_trans HB9.out b2)
        clear b2
        go_wp2_with fail
        go_ret
        exact ⟨ret_int HE.out.symm, HB2.out⟩
      | true =>
        have HE := hid hk
        refine (ocheck_yes hk _).mono ?_
        clear hk
        rintro e w2 ⟨rfl, b2⟩
        have HB2 := hid (q_trans HB9.out b2)
        clear b2
        go_wp2_with fail
        go_roundw
        case rel =>
          refine ⟨q + 1, by omega, by go_num, fun j hj => ?_, HB2⟩
          rcases Nat.lt_or_ge j q with y | y
          · exact HU.out j y
          · obtain rfl : j = q := by omega
            rw [HX.out]
            exact HE.out
        case measure => simp [intOf]; omega
    · obtain rfl : q = m := by omega
      have HE : Hid (vdK l = 0) := by unfold Hid vdK; rw [oks_yes (fun j hj => HU.out j (by have := HN.out; omega))]; rfl
      go_wp2_with fail
      go_ret
      exact ⟨ret_int HE.out.symm, HB.out⟩
set_option maxHeartbeats 1000000 in
theorem pthere_any (y : Gv) (g : Gt) (k : P) (w : World) (hs : y.k.n ≤ 9223372036854775806) (HH : Hid (HasG w y g)) :
    Calls Try.prog 59 #[(.agg #[.slice y.k.o y.k.n y.k.c, .slice y.i.o y.i.n y.i.c, .slice y.f.o y.f.n y.f.c]), (.agg #[.int .i64 k.1, .int .i64 k.2])] w fun e w' => e = .returned (.int .i64 (thG g k)) ∧ Below w.heap.size w w' := by
  go_enter Try.func59, Try.ntmps59
  go_wp2_with fail
  obtain ⟨g1, g2, g3⟩ := gk_new w y k 25 27
  have HB := hid g3
  clear g1 g2
  refine (ohas_any y.k.o y.k.n y.k.c g.ks k _ hs (HH.out.ks.below g3)).mono ?_
  clear g3
  rintro e w1 ⟨rfl, b1⟩
  replace HB := hid (q_trans HB.out b1)
  clear b1
  cases h3 : hsB g.ks k with
  | false =>
    have HE : Hid (thG g k = 7) := by unfold Hid thG; rw [h3]; rfl
    clear h3
    go_wp2_with fail
    go_ret
    exact ⟨ret_int HE.out.symm, HB.out⟩
  | true =>
    have HE : Hid (thG g k = 0) := by unfold Hid thG; rw [h3]; rfl
    clear h3
    go_wp2_with fail
    go_ret
    exact ⟨ret_int HE.out.symm, HB.out⟩
set_option maxHeartbeats 1000000 in
theorem punused_any (y : Gv) (g : Gt) (k : P) (w : World) (hs : y.k.n ≤ 9223372036854775806) (HH : Hid (HasG w y g)) :
    Calls Try.prog 57 #[(.agg #[.slice y.k.o y.k.n y.k.c, .slice y.i.o y.i.n y.i.c, .slice y.f.o y.f.n y.f.c]), (.agg #[.int .i64 k.1, .int .i64 k.2])] w fun e w' => e = .returned (.int .i64 (unG g k)) ∧ Below w.heap.size w w' := by
  go_enter Try.func57, Try.ntmps57
  go_wp2_with fail
  obtain ⟨g1, g2, g3⟩ := gk_new w y k 25 27
  have HB := hid g3
  clear g1 g2
  refine (ohas_any y.k.o y.k.n y.k.c g.ks k _ hs (HH.out.ks.below g3)).mono ?_
  clear g3
  rintro e w1 ⟨rfl, b1⟩
  replace HB := hid (q_trans HB.out b1)
  clear b1
  cases h3 : hsB g.ks k with
  | false =>
    have HE : Hid (unG g k = 0) := by unfold Hid unG; rw [h3]; rfl
    clear h3
    go_wp2_with fail
    go_ret
    exact ⟨ret_int HE.out.symm, HB.out⟩
  | true =>
    have HE : Hid (unG g k = 8) := by unfold Hid unG; rw [h3]; rfl
    clear h3
    go_wp2_with fail
    go_ret
    exact ⟨ret_int HE.out.symm, HB.out⟩
set_option maxHeartbeats 400000 in
theorem proom_any (y : Gv) (w : World) :
    Calls Try.prog 58 #[(.agg #[.slice y.k.o y.k.n y.k.c, .slice y.i.o y.i.n y.i.c, .slice y.f.o y.f.n y.f.c])] w fun e w' => e = .returned (.int .i64 (rmG y.f.n)) ∧ Below w.heap.size w w' := by
  by_cases h : 4096 ≤ y.f.n
  · have i1 : (y.f.n : Int) ≥ 4096 := by omega
    rw [show rmG y.f.n = 6 from if_pos h]
    clear h
    go_enter Try.func58, Try.ntmps58
    go_wp2_with fail
    go_ret
    exact ⟨rfl, alloc_below _ _⟩
  · have i1 : ¬ (y.f.n : Int) ≥ 4096 := by omega
    rw [show rmG y.f.n = 0 from if_neg h]
    clear h
    go_enter Try.func58, Try.ntmps58
    go_wp2_with fail
    go_ret
    exact ⟨rfl, alloc_below _ _⟩
/-- The two boxes: a ghost's, a birth's. -/
abbrev SZ (c : Nat) (y : Gv) (d : Nat) (z : Bi) (w : World) : Prop := w.cell? ⟨c, 0, none⟩ = some (.slice y.k.o y.k.n y.k.c) ∧ w.cell? ⟨c, 1, none⟩ = some (.slice y.i.o y.i.n y.i.c) ∧ w.cell? ⟨c, 2, none⟩ = some (.slice y.f.o y.f.n y.f.c) ∧ w.cell? ⟨d, 0, none⟩ = some (.int .i64 z.kind) ∧ w.cell? ⟨d, 1, none⟩ = some (.int .i64 z.key.1) ∧ w.cell? ⟨d, 2, none⟩ = some (.int .i64 z.key.2) ∧ w.cell? ⟨d, 3, none⟩ = some (.int .i64 z.fm.1) ∧ w.cell? ⟨d, 4, none⟩ = some (.int .i64 z.fm.2)
theorem sz_keep {c d : Nat} {y : Gv} {z : Bi} {w w' : World} (h : SZ c y d z w) (q : Below w.heap.size w w') : SZ c y d z w' := by
  obtain ⟨a0, a1, a2, a3, a4, a5, a6, a7⟩ := h
  exact ⟨(q.cell (World.block_lt_of_cell? w _ a0)).trans a0, (q.cell (World.block_lt_of_cell? w _ a1)).trans a1, (q.cell (World.block_lt_of_cell? w _ a2)).trans a2, (q.cell (World.block_lt_of_cell? w _ a3)).trans a3, (q.cell (World.block_lt_of_cell? w _ a4)).trans a4, (q.cell (World.block_lt_of_cell? w _ a5)).trans a5, (q.cell (World.block_lt_of_cell? w _ a6)).trans a6, (q.cell (World.block_lt_of_cell? w _ a7)).trans a7⟩
theorem sz_drew {c d : Nat} {y : Gv} {z : Bi} {w : World} (h : SZ c y d z w) : SZ c y d z w.drew := h
theorem sz_alloc {c d : Nat} {y : Gv} {z : Bi} {w : World} (h : SZ c y d z w) (o : Obj) : SZ c y d z (w.alloc o) := sz_keep h (alloc_below w o)
theorem sz_new (w : World) (y : Gv) (z : Bi) (t u : TypeId) : SZ w.heap.size y (w.heap.size + 1) z ((w.alloc (.cells #[.slice y.k.o y.k.n y.k.c, .slice y.i.o y.i.n y.i.c, .slice y.f.o y.f.n y.f.c] t)).alloc (.cells #[.int .i64 z.kind, .int .i64 z.key.1, .int .i64 z.key.2, .int .i64 z.fm.1, .int .i64 z.fm.2] u)) := by
  refine ⟨?_, ?_, ?_, ?_, ?_, ?_, ?_, ?_⟩ <;> simp
set_option maxRecDepth 100000 in
set_option maxHeartbeats 4000000 in
theorem prefused1 (y : Gv) (g : Gt) (key fm : P) (w : World) (hs : y.k.n ≤ 9223372036854775806) (HH : Hid (HasG w y g)) :
    Calls Try.prog 37 #[(.agg #[.slice y.k.o y.k.n y.k.c, .slice y.i.o y.i.n y.i.c, .slice y.f.o y.f.n y.f.c]), .agg #[.int .i64 1, .int .i64 key.1, .int .i64 key.2, .int .i64 fm.1, .int .i64 fm.2]] w fun e w' => e = .returned (.int .i64 (rfE g ⟨1, key, fm⟩)) ∧ Below w.heap.size w w' := by
  have HN := hid HH.out.fr.len
  have HQ : Hid (orV [vdK [key], unG g key, rmG y.f.n] = rfE g ⟨1, key, fm⟩) := by unfold Hid rfE; rw [HN.out]; simp
  go_enter Try.func37, Try.ntmps37
  go_wp2_with fail
  have B0 : Hid (Below w.heap.size w ((w.alloc (.cells #[.slice y.k.o y.k.n y.k.c, .slice y.i.o y.i.n y.i.c, .slice y.f.o y.f.n y.f.c] 25)).alloc (.cells #[.int .i64 1, .int .i64 key.1, .int .i64 key.2, .int .i64 fm.1, .int .i64 fm.2] 29))) := q_alloc (alloc_below _ _) _
  have hS := sz_new w y ⟨1, key, fm⟩ 25 29
  generalize (w.alloc (.cells #[.slice y.k.o y.k.n y.k.c, .slice y.i.o y.i.n y.i.c, .slice y.f.o y.f.n y.f.c] 25)).alloc (.cells #[.int .i64 1, .int .i64 key.1, .int .i64 key.2, .int .i64 fm.1, .int .i64 fm.2] 29) = W at B0 hS ⊢
  have HW := hid (HH.out.below B0.out)
  go_region_held3 (SZ w.heap.size y (w.heap.size + 1) ⟨1, key, fm⟩) (first | with_reducible assumption | with_reducible exact sz_drew hS | with_reducible exact sz_alloc hS _ | with_reducible exact sz_drew (sz_alloc hS _) | with_reducible exact sz_alloc (sz_drew hS) _ | with_reducible exact HS1.out | with_reducible exact sz_drew HS1.out | with_reducible exact sz_alloc HS1.out _ | with_reducible exact sz_drew (sz_alloc HS1.out _) | with_reducible exact HS2.out | with_reducible exact sz_drew HS2.out | with_reducible exact sz_alloc HS2.out _ | with_reducible exact sz_drew (sz_alloc HS2.out _) | with_reducible exact HS3.out | with_reducible exact sz_drew HS3.out | with_reducible exact sz_alloc HS3.out _ | with_reducible exact sz_drew (sz_alloc HS3.out _) | with_reducible exact HS4.out | with_reducible exact sz_drew HS4.out | with_reducible exact sz_alloc HS4.out _ | with_reducible exact sz_drew (sz_alloc HS4.out _))
    (first
      | (go_at_call 56; refine (pvalid_any (some ⟨W.heap.size, 0, none⟩) 1 1 [key] _ (by omega) (by first | exact hasP_new W [key] 27 | exact (hasP_new W [key] 27).below (Below.refl _ _).drew)).mono ?_; rintro e w1 ⟨rfl, b1⟩; have B1 : Hid (Below W.heap.size W w1) := (by first | exact q_trans (alloc_below W _) b1 | exact q_trans (alloc_below W _).drew b1); have HS1 : Hid (SZ w.heap.size y (w.heap.size + 1) ⟨1, key, fm⟩ w1) := sz_keep hS B1.out; clear b1)
      | (go_at_call 57; refine (punused_any y g key _ hs (by first | exact HW.out.below B1.out | exact HW.out.below B1.out.drew)).mono ?_; rintro e w2 ⟨rfl, b2⟩; have B2 : Hid (Below W.heap.size W w2) := (by first | exact q_trans B1.out b2 | exact q_trans B1.out.drew b2); have HS2 : Hid (SZ w.heap.size y (w.heap.size + 1) ⟨1, key, fm⟩ w2) := sz_keep hS B2.out; clear b2)
      | (go_at_call 58; refine (proom_any y _).mono ?_; rintro e w3 ⟨rfl, b3⟩; have B3 : Hid (Below W.heap.size W w3) := (by first | exact q_trans B2.out b3 | exact q_trans B2.out.drew b3); have HS3 : Hid (SZ w.heap.size y (w.heap.size + 1) ⟨1, key, fm⟩ w3) := sz_keep hS B3.out; clear b3)
      | (go_at_call 36; refine (or_low (some ⟨w3.heap.size, 0, none⟩) 3 3 [vdK [key], unG g key, rmG y.f.n] _ (by omega) (by first | exact has_new w3 [vdK [key], unG g key, rmG y.f.n] 32 | exact (has_new w3 [vdK [key], unG g key, rmG y.f.n] 32).below (Below.refl _ _).drew)).mono ?_; rintro e w4 ⟨rfl, b4⟩; have B4 : Hid (Below W.heap.size W w4) := (by first | exact q_trans (q_alloc B3.out _) b4 | exact q_trans (q_alloc B3.out _).drew b4); have HS4 : Hid (SZ w.heap.size y (w.heap.size + 1) ⟨1, key, fm⟩ w4) := sz_keep hS B4.out; clear b4)
      | fail)
  go_wp2_with fail
  go_ret
  exact ⟨ret_int HQ.out, q_trans B0.out B4.out⟩
set_option maxRecDepth 100000 in
set_option maxHeartbeats 4000000 in
theorem prefused2 (y : Gv) (g : Gt) (key fm : P) (w : World) (hs : y.k.n ≤ 9223372036854775806) (HH : Hid (HasG w y g)) :
    Calls Try.prog 37 #[(.agg #[.slice y.k.o y.k.n y.k.c, .slice y.i.o y.i.n y.i.c, .slice y.f.o y.f.n y.f.c]), .agg #[.int .i64 2, .int .i64 key.1, .int .i64 key.2, .int .i64 fm.1, .int .i64 fm.2]] w fun e w' => e = .returned (.int .i64 (rfE g ⟨2, key, fm⟩)) ∧ Below w.heap.size w w' := by
  have HN := hid HH.out.fr.len
  have HQ : Hid (orV [vdK [key, fm], thG g fm, unG g key, rmG y.f.n] = rfE g ⟨2, key, fm⟩) := by unfold Hid rfE; rw [HN.out]; simp
  go_enter Try.func37, Try.ntmps37
  go_wp2_with fail
  have B0 : Hid (Below w.heap.size w ((w.alloc (.cells #[.slice y.k.o y.k.n y.k.c, .slice y.i.o y.i.n y.i.c, .slice y.f.o y.f.n y.f.c] 25)).alloc (.cells #[.int .i64 2, .int .i64 key.1, .int .i64 key.2, .int .i64 fm.1, .int .i64 fm.2] 29))) := q_alloc (alloc_below _ _) _
  have hS := sz_new w y ⟨2, key, fm⟩ 25 29
  generalize (w.alloc (.cells #[.slice y.k.o y.k.n y.k.c, .slice y.i.o y.i.n y.i.c, .slice y.f.o y.f.n y.f.c] 25)).alloc (.cells #[.int .i64 2, .int .i64 key.1, .int .i64 key.2, .int .i64 fm.1, .int .i64 fm.2] 29) = W at B0 hS ⊢
  have HW := hid (HH.out.below B0.out)
  go_region_held3 (SZ w.heap.size y (w.heap.size + 1) ⟨2, key, fm⟩) (first | with_reducible assumption | with_reducible exact sz_drew hS | with_reducible exact sz_alloc hS _ | with_reducible exact sz_drew (sz_alloc hS _) | with_reducible exact sz_alloc (sz_drew hS) _ | with_reducible exact HS1.out | with_reducible exact sz_drew HS1.out | with_reducible exact sz_alloc HS1.out _ | with_reducible exact sz_drew (sz_alloc HS1.out _) | with_reducible exact HS2.out | with_reducible exact sz_drew HS2.out | with_reducible exact sz_alloc HS2.out _ | with_reducible exact sz_drew (sz_alloc HS2.out _) | with_reducible exact HS3.out | with_reducible exact sz_drew HS3.out | with_reducible exact sz_alloc HS3.out _ | with_reducible exact sz_drew (sz_alloc HS3.out _) | with_reducible exact HS4.out | with_reducible exact sz_drew HS4.out | with_reducible exact sz_alloc HS4.out _ | with_reducible exact sz_drew (sz_alloc HS4.out _) | with_reducible exact HS5.out | with_reducible exact sz_drew HS5.out | with_reducible exact sz_alloc HS5.out _ | with_reducible exact sz_drew (sz_alloc HS5.out _))
    (first
      | (go_at_call 56; refine (pvalid_any (some ⟨W.heap.size, 0, none⟩) 2 2 [key, fm] _ (by omega) (by first | exact hasP_new W [key, fm] 27 | exact (hasP_new W [key, fm] 27).below (Below.refl _ _).drew)).mono ?_; rintro e w1 ⟨rfl, b1⟩; have B1 : Hid (Below W.heap.size W w1) := (by first | exact q_trans (alloc_below W _) b1 | exact q_trans (alloc_below W _).drew b1); have HS1 : Hid (SZ w.heap.size y (w.heap.size + 1) ⟨2, key, fm⟩ w1) := sz_keep hS B1.out; clear b1)
      | (go_at_call 59; refine (pthere_any y g fm _ hs (by first | exact HW.out.below B1.out | exact HW.out.below B1.out.drew)).mono ?_; rintro e w2 ⟨rfl, b2⟩; have B2 : Hid (Below W.heap.size W w2) := (by first | exact q_trans B1.out b2 | exact q_trans B1.out.drew b2); have HS2 : Hid (SZ w.heap.size y (w.heap.size + 1) ⟨2, key, fm⟩ w2) := sz_keep hS B2.out; clear b2)
      | (go_at_call 57; refine (punused_any y g key _ hs (by first | exact HW.out.below B2.out | exact HW.out.below B2.out.drew)).mono ?_; rintro e w3 ⟨rfl, b3⟩; have B3 : Hid (Below W.heap.size W w3) := (by first | exact q_trans B2.out b3 | exact q_trans B2.out.drew b3); have HS3 : Hid (SZ w.heap.size y (w.heap.size + 1) ⟨2, key, fm⟩ w3) := sz_keep hS B3.out; clear b3)
      | (go_at_call 58; refine (proom_any y _).mono ?_; rintro e w4 ⟨rfl, b4⟩; have B4 : Hid (Below W.heap.size W w4) := (by first | exact q_trans B3.out b4 | exact q_trans B3.out.drew b4); have HS4 : Hid (SZ w.heap.size y (w.heap.size + 1) ⟨2, key, fm⟩ w4) := sz_keep hS B4.out; clear b4)
      | (go_at_call 36; refine (or_low (some ⟨w4.heap.size, 0, none⟩) 4 4 [vdK [key, fm], thG g fm, unG g key, rmG y.f.n] _ (by omega) (by first | exact has_new w4 [vdK [key, fm], thG g fm, unG g key, rmG y.f.n] 32 | exact (has_new w4 [vdK [key, fm], thG g fm, unG g key, rmG y.f.n] 32).below (Below.refl _ _).drew)).mono ?_; rintro e w5 ⟨rfl, b5⟩; have B5 : Hid (Below W.heap.size W w5) := (by first | exact q_trans (q_alloc B4.out _) b5 | exact q_trans (q_alloc B4.out _).drew b5); have HS5 : Hid (SZ w.heap.size y (w.heap.size + 1) ⟨2, key, fm⟩ w5) := sz_keep hS B5.out; clear b5)
      | fail)
  go_wp2_with fail
  go_ret
  exact ⟨ret_int HQ.out, q_trans B0.out B5.out⟩
set_option maxRecDepth 100000 in
set_option maxHeartbeats 4000000 in
theorem prefused3 (y : Gv) (g : Gt) (key fm : P) (w : World) (hs : y.k.n ≤ 9223372036854775806) (HH : Hid (HasG w y g)) :
    Calls Try.prog 37 #[(.agg #[.slice y.k.o y.k.n y.k.c, .slice y.i.o y.i.n y.i.c, .slice y.f.o y.f.n y.f.c]), .agg #[.int .i64 3, .int .i64 key.1, .int .i64 key.2, .int .i64 fm.1, .int .i64 fm.2]] w fun e w' => e = .returned (.int .i64 (rfE g ⟨3, key, fm⟩)) ∧ Below w.heap.size w w' := by
  have HN := hid HH.out.fr.len
  have HQ : Hid (orV [vdK [key, fm], thG g fm, unG g key] = rfE g ⟨3, key, fm⟩) := by unfold Hid rfE; simp
  go_enter Try.func37, Try.ntmps37
  go_wp2_with fail
  have B0 : Hid (Below w.heap.size w ((w.alloc (.cells #[.slice y.k.o y.k.n y.k.c, .slice y.i.o y.i.n y.i.c, .slice y.f.o y.f.n y.f.c] 25)).alloc (.cells #[.int .i64 3, .int .i64 key.1, .int .i64 key.2, .int .i64 fm.1, .int .i64 fm.2] 29))) := q_alloc (alloc_below _ _) _
  have hS := sz_new w y ⟨3, key, fm⟩ 25 29
  generalize (w.alloc (.cells #[.slice y.k.o y.k.n y.k.c, .slice y.i.o y.i.n y.i.c, .slice y.f.o y.f.n y.f.c] 25)).alloc (.cells #[.int .i64 3, .int .i64 key.1, .int .i64 key.2, .int .i64 fm.1, .int .i64 fm.2] 29) = W at B0 hS ⊢
  have HW := hid (HH.out.below B0.out)
  go_region_held3 (SZ w.heap.size y (w.heap.size + 1) ⟨3, key, fm⟩) (first | with_reducible assumption | with_reducible exact sz_drew hS | with_reducible exact sz_alloc hS _ | with_reducible exact sz_drew (sz_alloc hS _) | with_reducible exact sz_alloc (sz_drew hS) _ | with_reducible exact HS1.out | with_reducible exact sz_drew HS1.out | with_reducible exact sz_alloc HS1.out _ | with_reducible exact sz_drew (sz_alloc HS1.out _) | with_reducible exact HS2.out | with_reducible exact sz_drew HS2.out | with_reducible exact sz_alloc HS2.out _ | with_reducible exact sz_drew (sz_alloc HS2.out _) | with_reducible exact HS3.out | with_reducible exact sz_drew HS3.out | with_reducible exact sz_alloc HS3.out _ | with_reducible exact sz_drew (sz_alloc HS3.out _) | with_reducible exact HS4.out | with_reducible exact sz_drew HS4.out | with_reducible exact sz_alloc HS4.out _ | with_reducible exact sz_drew (sz_alloc HS4.out _))
    (first
      | (go_at_call 56; refine (pvalid_any (some ⟨W.heap.size, 0, none⟩) 2 2 [key, fm] _ (by omega) (by first | exact hasP_new W [key, fm] 27 | exact (hasP_new W [key, fm] 27).below (Below.refl _ _).drew)).mono ?_; rintro e w1 ⟨rfl, b1⟩; have B1 : Hid (Below W.heap.size W w1) := (by first | exact q_trans (alloc_below W _) b1 | exact q_trans (alloc_below W _).drew b1); have HS1 : Hid (SZ w.heap.size y (w.heap.size + 1) ⟨3, key, fm⟩ w1) := sz_keep hS B1.out; clear b1)
      | (go_at_call 59; refine (pthere_any y g fm _ hs (by first | exact HW.out.below B1.out | exact HW.out.below B1.out.drew)).mono ?_; rintro e w2 ⟨rfl, b2⟩; have B2 : Hid (Below W.heap.size W w2) := (by first | exact q_trans B1.out b2 | exact q_trans B1.out.drew b2); have HS2 : Hid (SZ w.heap.size y (w.heap.size + 1) ⟨3, key, fm⟩ w2) := sz_keep hS B2.out; clear b2)
      | (go_at_call 57; refine (punused_any y g key _ hs (by first | exact HW.out.below B2.out | exact HW.out.below B2.out.drew)).mono ?_; rintro e w3 ⟨rfl, b3⟩; have B3 : Hid (Below W.heap.size W w3) := (by first | exact q_trans B2.out b3 | exact q_trans B2.out.drew b3); have HS3 : Hid (SZ w.heap.size y (w.heap.size + 1) ⟨3, key, fm⟩ w3) := sz_keep hS B3.out; clear b3)
      | (go_at_call 36; refine (or_low (some ⟨w3.heap.size, 0, none⟩) 3 3 [vdK [key, fm], thG g fm, unG g key] _ (by omega) (by first | exact has_new w3 [vdK [key, fm], thG g fm, unG g key] 32 | exact (has_new w3 [vdK [key, fm], thG g fm, unG g key] 32).below (Below.refl _ _).drew)).mono ?_; rintro e w4 ⟨rfl, b4⟩; have B4 : Hid (Below W.heap.size W w4) := (by first | exact q_trans (q_alloc B3.out _) b4 | exact q_trans (q_alloc B3.out _).drew b4); have HS4 : Hid (SZ w.heap.size y (w.heap.size + 1) ⟨3, key, fm⟩ w4) := sz_keep hS B4.out; clear b4)
      | fail)
  go_wp2_with fail
  go_ret
  exact ⟨ret_int HQ.out, q_trans B0.out B4.out⟩
set_option maxRecDepth 100000 in
set_option maxHeartbeats 4000000 in
theorem prefused4 (y : Gv) (g : Gt) (key fm : P) (w : World) (hs : y.k.n ≤ 9223372036854775806) (HH : Hid (HasG w y g)) :
    Calls Try.prog 37 #[(.agg #[.slice y.k.o y.k.n y.k.c, .slice y.i.o y.i.n y.i.c, .slice y.f.o y.f.n y.f.c]), .agg #[.int .i64 4, .int .i64 key.1, .int .i64 key.2, .int .i64 fm.1, .int .i64 fm.2]] w fun e w' => e = .returned (.int .i64 (rfE g ⟨4, key, fm⟩)) ∧ Below w.heap.size w w' := by
  have HN := hid HH.out.fr.len
  have HQ : Hid (orV [vdK [key], thG g key] = rfE g ⟨4, key, fm⟩) := by unfold Hid rfE; simp
  go_enter Try.func37, Try.ntmps37
  go_wp2_with fail
  have B0 : Hid (Below w.heap.size w ((w.alloc (.cells #[.slice y.k.o y.k.n y.k.c, .slice y.i.o y.i.n y.i.c, .slice y.f.o y.f.n y.f.c] 25)).alloc (.cells #[.int .i64 4, .int .i64 key.1, .int .i64 key.2, .int .i64 fm.1, .int .i64 fm.2] 29))) := q_alloc (alloc_below _ _) _
  have hS := sz_new w y ⟨4, key, fm⟩ 25 29
  generalize (w.alloc (.cells #[.slice y.k.o y.k.n y.k.c, .slice y.i.o y.i.n y.i.c, .slice y.f.o y.f.n y.f.c] 25)).alloc (.cells #[.int .i64 4, .int .i64 key.1, .int .i64 key.2, .int .i64 fm.1, .int .i64 fm.2] 29) = W at B0 hS ⊢
  have HW := hid (HH.out.below B0.out)
  go_region_held3 (SZ w.heap.size y (w.heap.size + 1) ⟨4, key, fm⟩) (first | with_reducible assumption | with_reducible exact sz_drew hS | with_reducible exact sz_alloc hS _ | with_reducible exact sz_drew (sz_alloc hS _) | with_reducible exact sz_alloc (sz_drew hS) _ | with_reducible exact HS1.out | with_reducible exact sz_drew HS1.out | with_reducible exact sz_alloc HS1.out _ | with_reducible exact sz_drew (sz_alloc HS1.out _) | with_reducible exact HS2.out | with_reducible exact sz_drew HS2.out | with_reducible exact sz_alloc HS2.out _ | with_reducible exact sz_drew (sz_alloc HS2.out _) | with_reducible exact HS3.out | with_reducible exact sz_drew HS3.out | with_reducible exact sz_alloc HS3.out _ | with_reducible exact sz_drew (sz_alloc HS3.out _))
    (first
      | (go_at_call 56; refine (pvalid_any (some ⟨W.heap.size, 0, none⟩) 1 1 [key] _ (by omega) (by first | exact hasP_new W [key] 27 | exact (hasP_new W [key] 27).below (Below.refl _ _).drew)).mono ?_; rintro e w1 ⟨rfl, b1⟩; have B1 : Hid (Below W.heap.size W w1) := (by first | exact q_trans (alloc_below W _) b1 | exact q_trans (alloc_below W _).drew b1); have HS1 : Hid (SZ w.heap.size y (w.heap.size + 1) ⟨4, key, fm⟩ w1) := sz_keep hS B1.out; clear b1)
      | (go_at_call 59; refine (pthere_any y g key _ hs (by first | exact HW.out.below B1.out | exact HW.out.below B1.out.drew)).mono ?_; rintro e w2 ⟨rfl, b2⟩; have B2 : Hid (Below W.heap.size W w2) := (by first | exact q_trans B1.out b2 | exact q_trans B1.out.drew b2); have HS2 : Hid (SZ w.heap.size y (w.heap.size + 1) ⟨4, key, fm⟩ w2) := sz_keep hS B2.out; clear b2)
      | (go_at_call 36; refine (or_low (some ⟨w2.heap.size, 0, none⟩) 2 2 [vdK [key], thG g key] _ (by omega) (by first | exact has_new w2 [vdK [key], thG g key] 32 | exact (has_new w2 [vdK [key], thG g key] 32).below (Below.refl _ _).drew)).mono ?_; rintro e w3 ⟨rfl, b3⟩; have B3 : Hid (Below W.heap.size W w3) := (by first | exact q_trans (q_alloc B2.out _) b3 | exact q_trans (q_alloc B2.out _).drew b3); have HS3 : Hid (SZ w.heap.size y (w.heap.size + 1) ⟨4, key, fm⟩ w3) := sz_keep hS B3.out; clear b3)
      | fail)
  go_wp2_with fail
  go_ret
  exact ⟨ret_int HQ.out, q_trans B0.out B3.out⟩
set_option maxHeartbeats 1000000 in
theorem prefused0 (y : Gv) (g : Gt) (kd : Int) (key fm : P) (w : World) (e1 : (kd == 1) = false) (e2 : (kd == 2) = false) (e3 : (kd == 3) = false) (e4 : (kd == 4) = false) :
    Calls Try.prog 37 #[(.agg #[.slice y.k.o y.k.n y.k.c, .slice y.i.o y.i.n y.i.c, .slice y.f.o y.f.n y.f.c]), .agg #[.int .i64 kd, .int .i64 key.1, .int .i64 key.2, .int .i64 fm.1, .int .i64 fm.2]] w fun e w' => e = .returned (.int .i64 (rfE g ⟨kd, key, fm⟩)) ∧ Below w.heap.size w w' := by
  have HQ : Hid (rfE g ⟨kd, key, fm⟩ = 2) := by
    unfold Hid rfE
    rw [if_neg (by simpa using e1), if_neg (by simpa using e2), if_neg (by simpa using e3), if_neg (by simpa using e4)]
  have B0 : Hid (Below w.heap.size w ((w.alloc (.cells #[.slice y.k.o y.k.n y.k.c, .slice y.i.o y.i.n y.i.c, .slice y.f.o y.f.n y.f.c] 25)).alloc (.cells #[.int .i64 kd, .int .i64 key.1, .int .i64 key.2, .int .i64 fm.1, .int .i64 fm.2] 29))) := q_alloc (alloc_below _ _) _
  go_enter Try.func37, Try.ntmps37
  go_wp2_with fail
  go_ret
  exact ⟨ret_int HQ.out.symm, B0.out⟩
/-- WHAT IS REFUSED. -/
theorem prefused_any (y : Gv) (g : Gt) (z : Bi) (w : World) (hs : y.k.n ≤ 9223372036854775806) (HH : HasG w y g) :
    Calls Try.prog 37 #[(.agg #[.slice y.k.o y.k.n y.k.c, .slice y.i.o y.i.n y.i.c, .slice y.f.o y.f.n y.f.c]), (.agg #[.int .i64 z.kind, .int .i64 z.key.1, .int .i64 z.key.2, .int .i64 z.fm.1, .int .i64 z.fm.2])] w fun e w' => e = .returned (.int .i64 (rfE g z)) ∧ Below w.heap.size w w' := by
  obtain ⟨kd, key, fm⟩ := z
  by_cases e1 : kd = 1
  · subst e1; exact prefused1 y g key fm w hs HH
  by_cases e2 : kd = 2
  · subst e2; exact prefused2 y g key fm w hs HH
  by_cases e3 : kd = 3
  · subst e3; exact prefused3 y g key fm w hs HH
  by_cases e4 : kd = 4
  · subst e4; exact prefused4 y g key fm w hs HH
  exact prefused0 y g kd key fm w (by simpa using e1) (by simpa using e2) (by simpa using e3) (by simpa using e4)
end Go.Proofs.Ytcldnacpddebcaa.Gh

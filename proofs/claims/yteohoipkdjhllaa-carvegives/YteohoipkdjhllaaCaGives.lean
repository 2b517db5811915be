/- CarveGives answers true. -/
import Derived.Test.YteohoipkdjhllaaCaApp
import Derived.Deep.RegionHeld3
namespace Go.Proofs.Yteohoipkdjhllaa.Ca
open Go.RowKit

theorem mn_len (x : X) (v : Int) (l : List Int) : (mnL x v l).length ≤ l.length := by
  by_cases h : mnE x v l = 0
  · exact Nat.le_of_eq (laid_run x v l h).len
  · rw [(mn_no h).1]; exact Nat.zero_le _
/-- An extent's box, as a row reads it. -/
abbrev SX (b : Nat) (x : X) (w : World) : Prop := w.cell? ⟨b, 0, none⟩ = some (.int .i64 x.1) ∧ w.cell? ⟨b, 1, none⟩ = some (.int .i64 x.2)
theorem sx_keep {b : Nat} {x : X} {w w' : World} (hb : Below w.heap.size w w') (h : SX b x w) : SX b x w' := ⟨(hb.cell (World.block_lt_of_cell? w _ h.1)).trans h.1, (hb.cell (World.block_lt_of_cell? w _ h.2)).trans h.2⟩
theorem sx_alloc {b : Nat} {x : X} {w : World} {o : Obj} (h : SX b x w) : SX b x (w.alloc o) := sx_keep (alloc_below _ _) h
theorem sx_drew {b : Nat} {x : X} {w : World} (h : SX b x w) : SX b x w.drew := h
/-- What stands when the last row begins. -/
structure GV (w W : World) (p q : Nat) (y : X) (ao2 ao3 : Option Addr) (cap2 cap3 : Nat) (L : List X) (a1 : Option Addr) (n1 c1 : Nat) (m : List X) : Prop where
  low : Below w.heap.size w W
  a : AtX W ⟨p, 0, none⟩ y
  b : AtX W ⟨q, 0, none⟩ y
  c : HasX W ao2 L.length cap2 L
  d : HasX W ao3 L.length cap3 L
  m : HasX W a1 n1 c1 m
abbrev SG (w : World) (p q : Nat) (y : X) (ao2 ao3 : Option Addr) (cap2 cap3 : Nat) (L : List X) (a1 : Option Addr) (n1 c1 : Nat) (m : List X) (W : World) : Prop :=
  W.cell? ⟨p, 0, none⟩ = some (.int .i64 y.1) ∧ W.cell? ⟨p, 1, none⟩ = some (.int .i64 y.2) ∧ W.cell? ⟨q, 0, none⟩ = some (.int .i64 y.1) ∧ W.cell? ⟨q, 1, none⟩ = some (.int .i64 y.2) ∧ Hid (GV w W p q y ao2 ao3 cap2 cap3 L a1 n1 c1 m)
section
variable {w W W' : World} {p q : Nat} {y : X} {ao2 ao3 : Option Addr} {cap2 cap3 : Nat} {L : List X} {a1 : Option Addr} {n1 c1 : Nat} {m : List X}
theorem GV.below (h : GV w W p q y ao2 ao3 cap2 cap3 L a1 n1 c1 m) (k : Below W.heap.size W W') : GV w W' p q y ao2 ao3 cap2 cap3 L a1 n1 c1 m :=
  ⟨q_trans h.low k, h.a.below k, h.b.below k, h.c.below k, h.d.below k, h.m.below k⟩
theorem sg_of (h : GV w W p q y ao2 ao3 cap2 cap3 L a1 n1 c1 m) : SG w p q y ao2 ao3 cap2 cap3 L a1 n1 c1 m W := ⟨h.a.c0, h.a.c1, h.b.c0, h.b.c1, h⟩
theorem sg_keep (k : Below W.heap.size W W') (h : SG w p q y ao2 ao3 cap2 cap3 L a1 n1 c1 m W) : SG w p q y ao2 ao3 cap2 cap3 L a1 n1 c1 m W' := sg_of (h.2.2.2.2.out.below k)
theorem sg_alloc {o : Obj} (h : SG w p q y ao2 ao3 cap2 cap3 L a1 n1 c1 m W) : SG w p q y ao2 ao3 cap2 cap3 L a1 n1 c1 m (W.alloc o) := sg_keep (alloc_below W o) h
theorem sg_drew (h : SG w p q y ao2 ao3 cap2 cap3 L a1 n1 c1 m W) : SG w p q y ao2 ao3 cap2 cap3 L a1 n1 c1 m W.drew := sg_keep (Below.refl _ W).drew h
theorem sg_gv (h : SG w p q y ao2 ao3 cap2 cap3 L a1 n1 c1 m W) : GV w W p q y ao2 ao3 cap2 cap3 L a1 n1 c1 m := h.2.2.2.2.out
theorem g_same (hL : L.length ≤ 1000) (h : SG w p q y ao2 ao3 cap2 cap3 L a1 n1 c1 m W) : Calls Try.prog 25 #[.slice ao2 L.length cap2, .slice ao3 L.length cap3] W fun e w' => e = .returned (.bool true) ∧ Below W.heap.size W w' := same_yes (by omega) (sg_gv h).c (sg_gv h).d
theorem g_rapart {r : Bool} (hn : n1 ≤ 1000) (hr : apB m = r) (h : SG w p q y ao2 ao3 cap2 cap3 L a1 n1 c1 m W) : Calls Try.prog 27 #[.slice a1 n1 c1] W fun e w' => e = .returned (.bool r) ∧ Below W.heap.size W w' := is_rapart hn (sg_gv h).m hr
end
set_option maxRecDepth 100000 in
set_option maxHeartbeats 8000000 in
theorem gives_long (x : X) (v s : Int) (a0 a1 : Option Addr) (n0 c0 n1 c1 : Nat) (w : World) (h0 : n0 ≤ 9223372036854775807) (h1 : n1 ≤ 9223372036854775807) (h : ¬ (n0 ≤ 60 ∧ n1 ≤ 60)) :
    Calls Try.prog 4 #[(.agg #[.int .i64 x.1, .int .i64 x.2]), .int .i64 v, .int .i64 s, .slice a0 n0 c0, .slice a1 n1 c1] w fun e w' => e = .returned (.bool true) ∧ Below w.heap.size w w' := by
  by_cases h2 : n0 ≤ 60
  · have h3 : ¬ n1 ≤ 60 := fun e => h ⟨h2, e⟩
    clear h
    go_enter Try.func4, Try.ntmps4
    go_wp2_with (go_at_call 20; refine (live_any _).mono ?_; rintro e w9 ⟨rfl, b9⟩)
    go_ret
    exact ⟨rfl, q_trans (alloc_below _ _) b9⟩
  · clear h
    go_enter Try.func4, Try.ntmps4
    go_wp2_with (go_at_call 20; refine (live_any _).mono ?_; rintro e w9 ⟨rfl, b9⟩)
    go_ret
    exact ⟨rfl, q_trans (alloc_below _ _) b9⟩
set_option maxRecDepth 100000 in
set_option maxHeartbeats 8000000 in
theorem gives_short (x : X) (v s : Int) (a0 a1 : Option Addr) (n0 c0 n1 c1 : Nat) (l : List Int) (m : List X) (w : World) (h0 : n0 ≤ 60) (h1 : n1 ≤ 60) (H0 : Hid (Has w a0 n0 c0 l)) (H1 : Hid (HasX w a1 n1 c1 m)) :
    Calls Try.prog 4 #[(.agg #[.int .i64 x.1, .int .i64 x.2]), .int .i64 v, .int .i64 s, .slice a0 n0 c0, .slice a1 n1 c1] w fun e w' => e = .returned (.bool true) ∧ Below w.heap.size w w' := by
  obtain ⟨y, hy⟩ : ∃ y, cvX x v s = y := ⟨_, rfl⟩
  obtain ⟨u, hu⟩ : ∃ u, cvW x v s = u := ⟨_, rfl⟩
  obtain ⟨e0, he⟩ : ∃ e0, cvE x v s = e0 := ⟨_, rfl⟩
  obtain ⟨L, hL⟩ : ∃ L, mnL x v l = L := ⟨_, rfl⟩
  obtain ⟨t, ht⟩ : ∃ t, mnW x v l = t := ⟨_, rfl⟩
  obtain ⟨f, hf⟩ : ∃ f, mnE x v l = f := ⟨_, rfl⟩
  obtain ⟨r, hr⟩ : ∃ r, apB m = r := ⟨_, rfl⟩
  have HLl : Hid (L.length ≤ 1000) := by have := mn_len x v l; rw [hL] at this; have := H0.out.len; unfold Hid; omega
  have HC := hid (fun W : World => is_carve (w := W) hy hu he)
  have HD := hid (fun W : World => is_rcarve (w := W) hy hu he)
  have HM := hid (fun (W : World) (ao : Option Addr) (cap : Nat) (h : Has W ao n0 cap l) => is_many (w := W) (by omega) h hL ht hf)
  have HN := hid (fun (W : World) (ao : Option Addr) (cap : Nat) (h : Has W ao n0 cap l) => is_rmany (w := W) (by omega) h hL ht hf)
  have HR := hid hr
  clear hy hu he hL ht hf hr
  have q1 : (u == u) = true := by simp
  have q2 : (e0 == e0) = true := by simp
  have q3 : (t == t) = true := by simp
  have q4 : (f == f) = true := by simp
  have q5 : (r == r) = true := by simp
  have he := eq_yes (rfl : y = y)
  go_enter Try.func4, Try.ntmps4
  go_wp2_with fail
  have X0 := hid (bx_new w x 23)
  have B0 := hid (alloc_below w (.cells #[.int .i64 x.1, .int .i64 x.2] 23))
  refine (HC.out _).mono ?_
  rintro e w1 ⟨rfl, b1⟩
  have X1 := hid (X0.out.below b1)
  have B1 := hid (q_trans B0.out b1)
  clear b1 X0 B0
  have hlt : w.heap.size < w1.heap.size := X1.out.lt
  obtain ⟨p0, p1, -, -⟩ := X1.out
  go_wp2_with fail
  have A2 := hid (bx_new w1 y 23)
  have X2 := hid (X1.out.below (alloc_below w1 (.cells #[.int .i64 y.1, .int .i64 y.2] 23)))
  have B2 := hid (q_alloc B1.out (.cells #[.int .i64 y.1, .int .i64 y.2] 23))
  generalize hp : w1.heap.size = p at A2 ⊢
  generalize w1.alloc (.cells #[.int .i64 y.1, .int .i64 y.2] 23) = W2 at A2 X2 B2 ⊢
  clear p0 p1 hlt X1 B1 hp
  refine (HD.out _).mono ?_
  rintro e w3 ⟨rfl, b3⟩
  have A3 := hid (A2.out.below b3)
  have X3 := hid (X2.out.below b3)
  have B3 := hid (q_trans B2.out b3)
  clear b3 A2 X2 B2
  go_upto_region 1 with fail
  have D4 := hid (bx_new w3 y 23)
  have A4 := hid (A3.out.below (alloc_below w3 (.cells #[.int .i64 y.1, .int .i64 y.2] 23)))
  have X4 := hid (X3.out.below (alloc_below w3 (.cells #[.int .i64 y.1, .int .i64 y.2] 23)))
  have B4 := hid (q_alloc B3.out (.cells #[.int .i64 y.1, .int .i64 y.2] 23))
  generalize hq : w3.heap.size = q at D4 ⊢
  generalize w3.alloc (.cells #[.int .i64 y.1, .int .i64 y.2] 23) = W at D4 A4 X4 B4 ⊢
  clear hq A3 X3 B3
  have hS : SX w.heap.size x W := ⟨X4.out.c0, X4.out.c1⟩
  have H4 := hid (H0.out.below B4.out)
  have K4 := hid (H1.out.below B4.out)
  go_cut [17, 18, 19] from 48 to 57 (fun s17 s18 s19 wx => ∃ (ao : Option Addr) (cap : Nat), s17 = .slice ao L.length cap ∧ s18 = .int .i64 t ∧ s19 = .int .i64 f ∧ Hid (HasX wx ao L.length cap L) ∧ Hid (Below W.heap.size W wx))
  case first =>
    go_region_held3 (SX w.heap.size x) (first | with_reducible assumption | with_reducible exact HS2.out | with_reducible exact HS1.out | with_reducible exact sx_drew hS | with_reducible exact sx_alloc (sx_drew hS) | with_reducible exact sx_drew (sx_alloc hS) | with_reducible exact sx_alloc hS | fail)
      (first
        | (refine step_ints _ (by rfl) (.tmp 51) (.tmp 52) (by rfl) W.heap.size (.slice (some ⟨W.heap.size, 0, none⟩) 0 0) 0 [] (by rfl) ((own0 W 3 1).drew) a0 n0 c0 l (by rfl) H4.out.len H4.out.nil (H4.out.row.below ((alloc_below W _).drew)) n0 (by omega) l (by rfl) (by omega) (by simp) ?_; intro ao1 cap1 w4 own4 grow4; have HB4 : Hid (Below W.heap.size W w4) := (grow_below ((alloc_below W _).drew) grow4 (Nat.le_refl _)); have HS1 : Hid (SX w.heap.size x w4) := (sx_keep HB4.out hS); have HI4 := hid (own_hasI own4); clear own4 grow4)
        | (refine step_ints _ (by rfl) (.tmp 51) (.tmp 52) (by rfl) W.heap.size (.slice (some ⟨W.heap.size, 0, none⟩) 0 0) 0 [] (by rfl) (own0 W 3 1) a0 n0 c0 l (by rfl) H4.out.len H4.out.nil (H4.out.row.below (alloc_below W _)) n0 (by omega) l (by rfl) (by omega) (by simp) ?_; intro ao1 cap1 w4 own4 grow4; have HB4 : Hid (Below W.heap.size W w4) := (grow_below (alloc_below W _) grow4 (Nat.le_refl _)); have HS1 : Hid (SX w.heap.size x w4) := (sx_keep HB4.out hS); have HI4 := hid (own_hasI own4); clear own4 grow4)
        | (go_at_call 23; refine (HM.out _ _ _ HI4.out).mono ?_; rintro e w5 ⟨ao5, cap5, rfl, h5, b5⟩; have HB5 := hid (q_trans HB4.out b5); have HX5 := hid h5; have HS2 : Hid (SX w.heap.size x w5) := (sx_keep HB5.out hS); clear h5 b5)
        | fail)
    all_goals (try go_wp2_with fail)
    all_goals go_meet
    all_goals exact ⟨_, _, rfl, rfl, rfl, HX5, HB5⟩
  case rest =>
    obtain ⟨ao2, cap2, rfl, rfl, rfl, HX, HBc⟩ := hcut
    have X5 := hid (X4.out.below HBc.out)
    have B5 := hid (q_trans B4.out HBc.out)
    have A5 := hid (A4.out.below HBc.out)
    have D5 := hid (D4.out.below HBc.out)
    obtain ⟨p0, p1, -, -⟩ := X5.out
    clear hS H4 K4 X4 B4 A4 D4 HBc
    go_wp2_with fail
    refine (HN.out _ _ _ (H0.out.below B5.out)).mono ?_
    rintro e w6 ⟨ao3, cap3, rfl, h6, b6⟩
    have HG : Hid (GV w w6 p q y ao2 ao3 cap2 cap3 L a1 n1 c1 m) := ⟨q_trans B5.out b6, (A5.out.below b6).atX, (D5.out.below b6).atX, HX.out.below b6, h6, (H1.out.below B5.out).below b6⟩
    clear h6 b6 p0 p1 X5 B5 A5 D5 HX
    obtain ⟨r0, r1, r2, r3, -⟩ := sg_of HG.out
    go_wp2_with (go_at_call 11; refine (num_any _ _).mono ?_; rintro e w' ⟨rfl, hw⟩; rw [hw]; clear hw w')
    refine (same_yes (by have := HLl.out; omega) HG.out.c HG.out.d).mono ?_
    rintro e w7 ⟨rfl, b7⟩
    replace HG := hid (HG.out.below b7)
    clear b7 r0 r1 r2 r3
    have HZ : Hid ((exts m).length = n1 * 2) := by unfold Hid; rw [len_exts, ← H1.out.len]
    have HMr := hid (HG.out.m.row.below (alloc_below w7 (.cells #[] 23)))
    go_wp2_with (first | (go_at_call 11; refine (num_any _ _).mono ?_; rintro e w' ⟨rfl, hw⟩; rw [hw]; clear hw w') | (at_builtin; go_loud (refine wpList_append_row_g _ (by rfl) (.tmp 97) (.tmp 98) 37 23 _ 2 16 rfl Try.underlying37 infoX rfl (by decide) (by decide) w7.heap.size _ 0 [] rfl (own0 w7 23 2) a1 n1 c1 (exts m) rfl HZ.out H1.out.nil HMr.out (exts_one _) (by omega) (alloc_below w7 _).size ?_; intro ao8 cap8 w8 own8 grow8; apply Hid.out)))
    rw [Nat.zero_add, List.nil_append] at own8
    have HA8 := hid (own_hasX own8 H1.out.len)
    have L8 := hid (grow_below (alloc_below w7 _) grow8 (Nat.le_refl _))
    replace HG := hid (HG.out.below L8.out)
    clear own8 grow8 HZ HMr L8
    unfold Hid
    go_wp2_with fail
    refine (is_apart (by omega) HA8.out HR.out).mono ?_
    rintro e w9 ⟨rfl, b9⟩
    replace HG := hid (HG.out.below b9)
    clear b9 HA8
    go_wp2_with fail
    refine (is_rapart (by omega) HG.out.m HR.out).mono ?_
    rintro e w10 ⟨rfl, b10⟩
    replace HG := hid (HG.out.below b10)
    clear b10
    go_wp2_with fail
    refine (live_any _).mono ?_
    rintro e w11 ⟨rfl, b11⟩
    replace HG := hid (HG.out.below b11)
    clear b11
    go_wp2_with fail
    go_ret
    exact ⟨rfl, HG.out.low⟩
/-- CarveGives ANSWERS true. -/
theorem gives_any (x : X) (v s : Int) (a0 : Option Addr) (l : List Int) (n0 c0 : Nat) (a1 : Option Addr) (m : List X) (n1 c1 : Nat) (w : World) (hn0 : n0 ≤ 9223372036854775807) (H0 : Has w a0 n0 c0 l) (hn1 : n1 ≤ 9223372036854775807) (H1 : HasX w a1 n1 c1 m) :
    Calls Try.prog 4 #[(.agg #[.int .i64 x.1, .int .i64 x.2]), .int .i64 v, .int .i64 s, .slice a0 n0 c0, .slice a1 n1 c1] w fun e w' => e = .returned (.bool true) ∧ Below w.heap.size w w' := by
  by_cases h : n0 ≤ 60 ∧ n1 ≤ 60
  · exact gives_short x v s a0 a1 n0 c0 n1 c1 l m w h.1 h.2 H0 H1
  · exact gives_long x v s a0 a1 n0 c0 n1 c1 w hn0 hn1 h
end Go.Proofs.Yteohoipkdjhllaa.Ca

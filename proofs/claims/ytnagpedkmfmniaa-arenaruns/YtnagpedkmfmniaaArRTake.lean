/- What the document's Take and Give do. -/
import Derived.Test.YtnagpedkmfmniaaArRDrop
namespace Go.Proofs.Ytnagpedkmfmniaa.Ar
open Go.RowKit Go.Proofs.Ytnagpedkmfmniaa.Ha

/-- append AT A STEP OF A REGION THAT DRAWS ITS ORDER. -/
theorem step_append_ints (w : World) {ops : Array Oper} {o : Oper} {a : Act} {C : Act → World → Prop} {Q : Exit → Act → World → Prop} {E : Prop} (hgd : o.guard = none) (s x : Operand)
    (ho : o.op = .call { callee := .builtin .append, args := #[s, x], argTypes := #[49, 49] })
    (base : Nat) (v : Value) (n : Nat) (xs : List Int) (hs : a.eval s = v) (hown : w.ownsRow base 3 1 v n (vals xs))
    (ao : Option Addr) (m c : Nat) (ys : List Int) (hx : a.eval x = .slice ao m c) (hm : m = ys.length) (hc : ao = none → c = 0) (hy : Row w ao (vals ys))
    (N : Nat) (hN : n + m = N) (Z : List Int) (hZ : xs ++ ys = Z) (h63 : N ≤ 5000) (hbase : base ≤ w.heap.size)
    (h : ∀ ao' cap' w', w'.ownsRow base 3 1 (.slice ao' N cap') N (vals Z) → w.grownBy w' v.ownBlock → C (a.put o.dst (.slice ao' N cap')) w') :
    if Region.wanted o (yielded ops a.tmps) = true then Oper.wp Try.prog o a w C Q else E := by
  have hw : Region.wanted o (yielded ops a.tmps) = true := by simp [Region.wanted, hgd]
  rw [if_pos hw]
  subst hN hZ
  rw [show vals (xs ++ ys) = vals xs ++ vals ys by simp] at h
  obtain ⟨i0, hi, hz0, hz1, hz2⟩ := info_of infoN
  have sl : ∀ {w' : World} {v' : Value} {k : Nat} {cs : List Value}, w'.ownsRow base 3 1 v' k cs → ∃ ao' cap', v' = .slice ao' k cap' := by
    intro w' v' k cs h
    rcases h.2 with ⟨rfl, rfl⟩ | ⟨g, cap, cur, rfl, _⟩
    · exact ⟨_, _, rfl⟩
    · exact ⟨_, _, rfl⟩
  cases ao with
  | none =>
    have h0 := row_none hy
    have hl := len_vals ys
    rw [h0] at hl
    have hm0 : m = 0 := by rw [hm]; simp at hl; omega
    subst hm0
    rw [hc rfl] at hx
    obtain ⟨ao', cap', rfl⟩ := sl hown
    have hrun := run_append_owned_none (P := Try.prog) (w := w) base 49 o.type 3 i0 1 Try.underlying49 hi _ n (vals xs) hown
    unfold Oper.wp
    simp [execOp, ho, resolve, invoke, builtin, hs, hx, hrun, Result.andThen]
    exact h ao' cap' w (by rw [h0]; simpa using hown) (World.grownBy.refl _ _)
  | some ad =>
    refine wp_append_own w s x 49 ho base 3 i0 _ 1 8 Try.underlying49 hi hz0 hz1 hz2 rfl (by decide) v n (vals xs) hs hown ad m c (vals ys) hx (by rw [len_vals, hm]; omega) ?_ (vals_one _) (by unfold maxLen; omega) (by omega) hbase ?_
    · intro j u hu
      obtain ⟨a', e, hcell⟩ := hy.cell j u hu
      cases e
      exact hcell
    · intro v' w' h1 h2 _
      obtain ⟨ao', cap', rfl⟩ := sl h1
      exact h ao' cap' w' h1 h2
theorem one_val (w : World) (x : Int) (T : TypeId) : Row (w.alloc (.cells #[.int .i64 x] T)) (some ⟨w.heap.size, 0, none⟩) (vals [x]) := by
  refine ⟨fun j u hu => ⟨_, rfl, ?_⟩⟩
  match j, hu with
  | 0, hu => simp at hu; subst hu; simp [Addr.add]
  | j + 1, hu => simp at hu
theorem row_grown {w w' : World} {b r n c : Nat} {cs : List Value} (h : Row w (some ⟨b, 0, none⟩) cs) (hg : w.grownBy w' (Value.ownBlock (.slice (some ⟨r, 0, none⟩) n c))) (hne : b ≠ r) : Row w' (some ⟨b, 0, none⟩) cs :=
  h.kept (kept_grown hg) (fun _ a e => by cases e; intro e2; exact hne (Option.some.inj e2))
theorem grow_below {w W w3 : World} {g n c : Nat} (hb : Below w.heap.size w W) (hg : W.grownBy w3 (Value.ownBlock (.slice (some ⟨g, 0, none⟩) n c))) (h : w.heap.size ≤ g) : Below w.heap.size w w3 :=
  hb.grown hg hb.size (fun k e => by cases e; exact h)

abbrev IT (b : Nat) (t : Th) (w : World) : Prop := w.cell? ⟨b, 0, none⟩ = some (.int .i64 t.ty) ∧ w.cell? ⟨b, 1, none⟩ = some (.int .i64 t.gen) ∧ w.cell? ⟨b, 2, none⟩ = some (.int .i64 t.refs) ∧ w.cell? ⟨b, 3, none⟩ = some (.int .i64 t.st) ∧ w.cell? ⟨b, 4, none⟩ = some (.int .i64 t.sz) ∧ w.cell? ⟨b, 5, none⟩ = some (.int .i64 t.wa) ∧ w.cell? ⟨b, 6, none⟩ = some (.int .i64 t.fm) ∧ w.cell? ⟨b, 7, none⟩ = some (.int .i64 t.va)
abbrev SK (s : Nat) (x : Wh) (ga : Addr) (z : Value) (b : Nat) (t : Th) (w : World) : Prop := SB s x w ∧ w.cell? ga = some z ∧ IT b t w
theorem sk_kept {S : Nat → Prop} {w w' : World} {s b : Nat} {x : Wh} {ga : Addr} {z : Value} {t : Th} (k : Kept S w w') (h : SK s x ga z b t w) (h0 : ¬ S s) (h1 : ¬ S ga.block) (h2 : ¬ S b) : SK s x ga z b t w' := by
  obtain ⟨⟨a0, a1⟩, a2, b0, b1, b2, b3, b4, b5, b6, b7⟩ := h
  exact ⟨⟨k.cell a0 h0, k.cell a1 h0⟩, k.cell a2 h1, k.cell b0 h2, k.cell b1 h2, k.cell b2 h2, k.cell b3 h2, k.cell b4 h2, k.cell b5 h2, k.cell b6 h2, k.cell b7 h2⟩
theorem sk_keep {w w' : World} {s b : Nat} {x : Wh} {ga : Addr} {z : Value} {t : Th} (k : Below w.heap.size w w') (h : SK s x ga z b t w) : SK s x ga z b t w' := sk_kept (S := fun _ => False) (kept_below k) h (fun e => e) (fun e => e) (fun e => e)
theorem sk_drew {w : World} {s b : Nat} {x : Wh} {ga : Addr} {z : Value} {t : Th} (h : SK s x ga z b t w) : SK s x ga z b t w.drew := sk_keep (Below.refl _ _).drew h
theorem sk_alloc {w : World} {s b : Nat} {x : Wh} {ga : Addr} {z : Value} {t : Th} {o : Obj} (h : SK s x ga z b t w) : SK s x ga z b t (w.alloc o) := sk_keep (alloc_below _ _) h
theorem sk_two {w : World} {s b c : Nat} {x : Wh} {ga : Addr} {z u v : Value} {t : Th} (h : SK s x ga z b t w) (hk : s ≠ c ∧ ga.block ≠ c ∧ b ≠ c) : SK s x ga z b t ((w.setCell ⟨c, 0, none⟩ u).setCell ⟨c, 1, none⟩ v) := sk_kept (kept_two w c u v) h hk.1 hk.2.1 hk.2.2
theorem sm_list {a : Ar} (h : Sm a) (k : Nat) (l : List Int) (hl : l.length ≤ 1000) : Sm ⟨a.ts, a.fr.set k l⟩ := by
  refine ⟨h.t, by simpa using h.f, fun i => ?_⟩
  by_cases e : i = k
  · subst e
    by_cases hi : i < a.fr.length
    · rw [show (a.fr.set i l).getD i [] = l by simp [List.getD, hi]]; exact hl
    · show ((a.fr.set i l).getD i []).length ≤ 1000
      rw [List.set_eq_of_length_le (by omega)]; exact h.e i
  · have e2 : k ≠ i := fun x => e x.symm
    rw [show (a.fr.set k l).getD i [] = a.fr.getD i [] by simp [List.getD, e2]]
    exact h.e i
set_option maxRecDepth 100000 in
set_option maxHeartbeats 8000000 in
/-- THE DOCUMENT's Take. -/
theorem rtake_any (Av : Nat → Prop) (x : Wh) (a : Ar) (c : Int) (t : Th) (w : World) (HS : Hid (Sm a)) (HV : Hid (HasV w Av x a)) (HAV : Hid (∀ k, Av k → k < w.heap.size)) :
    Calls Try.prog 43 #[(.agg #[.slice x.t.o x.t.n x.t.c, .slice x.f.o x.f.n x.f.c]), .int .i64 c, (.agg #[.int .i64 t.ty, .int .i64 t.gen, .int .i64 t.refs, .int .i64 t.st, .int .i64 t.sz, .int .i64 t.wa, .int .i64 t.fm, .int .i64 t.va])] w fun e w' => ∃ y : Wh, e = .returned (.tuple #[(.agg #[.slice y.t.o y.t.n y.t.c, .slice y.f.o y.f.n y.f.c]), .int .i64 (takeP a c t), .int .i64 (takeE a c t)]) ∧ Rs w w' Av x y a (takeA a c t) := by
  have HH := hid HV.out.has
  obtain ⟨⟨xo, tn, tc⟩, ⟨fo, fn, fc⟩⟩ := x
  have HTN : Hid (tn = a.ts.length) := HH.out.tn
  have HFN : Hid (fn = a.fr.length) := HH.out.fn
  have HD0 := hid (dt_new w ⟨⟨xo, tn, tc⟩, ⟨fo, fn, fc⟩⟩ t)
  have HZ0 := hid (zr_new ((w.alloc (.cells #[.slice xo tn tc, .slice fo fn fc] 25)).alloc (.cells #[.int .i64 t.ty, .int .i64 t.gen, .int .i64 t.refs, .int .i64 t.st, .int .i64 t.sz, .int .i64 t.wa, .int .i64 t.fm, .int .i64 t.va] 40)))
  rw [show ((w.alloc (.cells #[.slice xo tn tc, .slice fo fn fc] 25)).alloc (.cells #[.int .i64 t.ty, .int .i64 t.gen, .int .i64 t.refs, .int .i64 t.st, .int .i64 t.sz, .int .i64 t.wa, .int .i64 t.fm, .int .i64 t.va] 40)).heap.size = w.heap.size + 2 by simp] at HZ0
  dsimp only at HD0
  go_enter Try.func43, Try.ntmps43
  go_wp2_with fail
  generalize ((w.alloc (.cells #[.slice xo tn tc, .slice fo fn fc] 25)).alloc (.cells #[.int .i64 t.ty, .int .i64 t.gen, .int .i64 t.refs, .int .i64 t.st, .int .i64 t.sz, .int .i64 t.wa, .int .i64 t.fm, .int .i64 t.va] 40)).alloc (.cells #[.slice none 0 0, .slice none 0 0] 25) = V at HD0 HZ0 ⊢
  have HD := hid ((⟨HD0.out.low, HD0.out.box, HZ0.out, by omega⟩ : Dw w V ⟨⟨xo, tn, tc⟩, ⟨fo, fn, fc⟩⟩ (w.heap.size + 2)))
  have HTB := hid HD0.out.tb
  clear HD0 HZ0
  refine (ris_any ⟨⟨xo, tn, tc⟩, ⟨fo, fn, fc⟩⟩ a V HS (HH.out.below HD.out.low)).mono ?_
  rintro e w2 ⟨rfl, b2⟩
  replace HD := hid (HD.out.below b2)
  replace HTB := hid (HTB.out.below b2)
  clear b2
  by_cases hok : Ok a
  · rw [okA_iff.2 hok]
    have HO := hid hok
    clear hok
    by_cases hin : 0 ≤ c ∧ c < (fn : Int)
    · obtain ⟨k, rfl⟩ : ∃ k : Nat, c = (k : Int) := ⟨c.toNat, by omega⟩
      obtain ⟨k1, k2⟩ := hin
      obtain ⟨c0, c1, cf⟩ := HD.out.box
      obtain ⟨t0, t1, t2, t3, t4, t5, t6, t7, tf⟩ := HTB.out
      go_wp2_with fail
      refine (rlive_any t _).mono ?_
      rintro e w4 ⟨rfl, b4⟩
      replace HD := hid (HD.out.below b4)
      replace HTB := hid (HTB.out.below b4)
      clear b4 c0 c1 cf t0 t1 t2 t3 t4 t5 t6 t7 tf
      cases hb : liveT t with
      | true =>
        have HL := hid hb
        clear hb
        have HK : Hid (k < a.fr.length) := by have := HFN.out; exact (by omega : k < a.fr.length)
        obtain ⟨fa, lo, m, lc, e, ca0, hL⟩ := HH.out.list k HK.out
        have e : fo = some fa := e
        subst e
        have HM := hid hL.len
        have HLL := hid hL
        have HFA := hid (World.block_lt_of_cell? w _ ca0)
        have ca := (kept_below (S := fun _ => False) HD.out.low).cell ca0 (fun e => e)
        have hm64 : m ≤ 1000 := by have := HM.out; have := HS.out.e k; omega
        obtain ⟨c0, c1, cf⟩ := HD.out.box
        clear hL ca0
        by_cases hm : m = 0
        · subst hm
          have HE := hid (takeE_full (t := t) HO.out k1 (by have := HK.out; omega) HL.out HM.out.symm)
          obtain ⟨r0, r1, rf⟩ := HD.out.zr.inA
          go_wp2_with fail
          refine bodyPost_ret (v := .tuple #[.agg #[.slice xo tn tc, .slice (some fa) fn fc], .int .i64 0, .int .i64 5]) (by simp [results, Try.results43, go_sem, r0, r1]) rfl ⟨⟨⟨xo, tn, tc⟩, ⟨some fa, fn, fc⟩⟩, ?_, ?_⟩
          · rw [takeP_no (by rw [HE.out]; decide), HE.out]
          · rw [takeA_no (by rw [HE.out]; decide)]; exact rs_keep HD.out HV.out
        · have m0 : ((m : Int) == 0) = false := bne_of (by omega)
          have m1 : (0 : Int) < (m : Int) := by omega
          have HE := hid (takeE_zero.2 ⟨HO.out, k1, by have := HK.out; omega, HL.out, by rw [show (li a.fr (k : Int)).length = m from HM.out.symm]; omega⟩)
          have HP := hid (head_of HO.out k1 (by have := HK.out; omega) (by rw [show (li a.fr (k : Int)).length = m from HM.out.symm]; omega))
          obtain ⟨la, rfl, cl⟩ := (HLL.out.below HD.out.low).cell 0 (by omega)
          rw [show la.add 0 = la by simp [Addr.add]] at cl
          have hp0 : (a.fr.getD k []).getD 0 0 = (li a.fr (k : Int)).getD 0 0 := rfl
          rw [hp0] at cl
          clear hp0
          obtain ⟨p, hp⟩ : ∃ p, (li a.fr (k : Int)).getD 0 0 = p := ⟨_, rfl⟩
          rw [hp] at cl HP
          have HPP := hid hp
          clear hp
          obtain ⟨q, rfl⟩ : ∃ q : Nat, p = (q : Int) := ⟨p.toNat, by have := HP.out.p0; omega⟩
          have q1 : (0 : Int) ≤ (q : Int) := by omega
          have q2 : (q : Int) < (tn : Int) := by have := HP.out.p1; have := HTN.out; omega
          have HQ : Hid (q < a.ts.length) := by have := HTN.out; exact (by omega : q < a.ts.length)
          obtain ⟨ta, e, hAt⟩ := HH.out.t.at_ q (by show q < tn; omega)
          have e : xo = some ta := e
          subst e
          obtain ⟨gn, hgn⟩ : ∃ gn, (a.ts.getD q Th.zero).gen = gn := ⟨_, rfl⟩
          have ga := (hAt.below HD.out.low).c1
          rw [hgn] at ga
          have HGN := hid hgn
          clear hgn hAt
          obtain ⟨t0, t1, t2, t3, t4, t5, t6, t7, tf⟩ := HTB.out
          have n4 : w.heap.size + 1 < w4.heap.size := HTB.out.lt
          go_upto_region 7 with fail
          have KG := kept_gr w4 (w.heap.size + 1) (.int .i64 gn) (.int .i64 1)
          replace HTB := hid (HTB.out.two gn 1)
          have HDZ : Hid (Zr ((w4.setCell ⟨w.heap.size + 1, 1, none⟩ (.int .i64 gn)).setCell ⟨w.heap.size + 1, 2, none⟩ (.int .i64 1)) (w.heap.size + 2)) := by
            unfold Hid Zr
            rw [KG.block _ (Array.getElem?_eq_some_iff.1 HD.out.zr).1 (by omega)]
            exact HD.out.zr
          replace HD := hid ((⟨HD.out.low.trans (KG.below w.heap.size HD.out.low.size (fun i e => by omega)), HD.out.box.kept KG (by omega), HDZ.out, by omega⟩ : Dw w ((w4.setCell ⟨w.heap.size + 1, 1, none⟩ (.int .i64 gn)).setCell ⟨w.heap.size + 1, 2, none⟩ (.int .i64 1)) ⟨⟨some ta, tn, tc⟩, ⟨some fa, fn, fc⟩⟩ (w.heap.size + 2)))
          have HCA : Hid (((w4.setCell ⟨w.heap.size + 1, 1, none⟩ (.int .i64 gn)).setCell ⟨w.heap.size + 1, 2, none⟩ (.int .i64 1)).cell? (fa.add k) = some (.slice (some la) m lc)) := KG.cell ca (by have := HFA.out; omega)
          clear c0 c1 cf t0 t1 t2 t3 t4 t5 t6 t7 tf ga ca cl n4 m0 m1 KG HDZ
          generalize (w4.setCell _ _).setCell _ _ = W5 at HD HTB HCA ⊢
          have HSZ : Hid (w.heap.size + 2 < W5.heap.size) := HD.out.zr.inA.lt
          have HAV2 : Hid (∀ W' : World, Below W5.heap.size W5 W' → ∀ j, (Av j ∨ j = w.heap.size + 2) → j < W5.heap.size) := fun _ _ j e => by
            have h1 := HSZ.out
            rcases e with e | e
            · have := HAV.out j e; omega
            · omega
          have hcutr := run_from1 (some la) m lc (by omega)
          obtain ⟨zo', hzo'⟩ : ∃ z, (if lc = 1 then some la else (some la).map (·.add 1)) = z := ⟨_, rfl⟩
          rw [hzo'] at hcutr
          have HT : Hid (Has W5 zo' (m - 1) (lc - 1) (a.fr.getD k []).tail) := by rw [← hzo']; exact has_drop (HLL.out.below HD.out.low) (by omega)
          have CL := hid (fun W' (v : Hd) (b : Below W5.heap.size W5 W') (hv : Mine W' W5.heap.size v.o v.n v.c (a.fr.getD k []).tail) => rlist_any (fun j => Av j ∨ j = w.heap.size + 2) ⟨⟨some ta, tn, tc⟩, ⟨some fa, fn, fc⟩⟩ a k v (a.fr.getD k []).tail W' HS HK ((HV.out.more (P := fun j => j = w.heap.size + 2) HD.out.low (fun j e => by omega)).below b) (fun j e => Nat.lt_of_lt_of_le (HAV2.out W' b j e) b.size) hv.has (fun _ a' e s => by have h1 := hv.new a' e; have h2 := HAV2.out W' b _ s; omega))
          have CS := hid (fun W' (y : Wh) (b : Below W5.heap.size W5 W') (hy : HasV W' (fun j => Av j ∨ j = w.heap.size + 2) y ⟨a.ts, a.fr.set k (a.fr.getD k []).tail⟩) => rset_any (fun j => Av j ∨ j = w.heap.size + 2) y ⟨a.ts, a.fr.set k (a.fr.getD k []).tail⟩ q ⟨t.ty, gn, 1, t.st, t.sz, t.wa, t.fm, t.va⟩ W' (sm_list HS.out k _ (by rw [List.length_tail]; have := HM.out; omega)) HQ hy (fun j e => Nat.lt_of_lt_of_le (HAV2.out W' b j e) b.size))
          dsimp only at CS
          obtain ⟨c0, c1, cf⟩ := HD.out.box
          obtain ⟨t0, t1, t2, t3, t4, t5, t6, t7, tf⟩ := HTB.out
          have hS : SK w.heap.size ⟨⟨some ta, tn, tc⟩, ⟨some fa, fn, fc⟩⟩ (fa.add k) (.slice (some la) m lc) (w.heap.size + 1) ⟨t.ty, gn, 1, t.st, t.sz, t.wa, t.fm, t.va⟩ W5 := ⟨⟨c0, c1⟩, HCA.out, t0, t1, t2, t3, t4, t5, t6, t7⟩
          have HNE : Hid (w.heap.size ≠ w.heap.size + 1 + 1 ∧ (fa.add k).block ≠ w.heap.size + 1 + 1 ∧ w.heap.size + 1 ≠ w.heap.size + 1 + 1) := ⟨by omega, by have := HFA.out; omega, by omega⟩
          clear hzo' c0 c1 cf t0 t1 t2 t3 t4 t5 t6 t7 tf
          go_region_held3 (SK w.heap.size ⟨⟨some ta, tn, tc⟩, ⟨some fa, fn, fc⟩⟩ (fa.add k) (.slice (some la) m lc) (w.heap.size + 1) ⟨t.ty, gn, 1, t.st, t.sz, t.wa, t.fm, t.va⟩) (first | with_reducible assumption | with_reducible exact sk_two HS3.out HNE.out | with_reducible exact HS3.out | with_reducible exact HS2.out | with_reducible exact HS1.out | with_reducible exact sk_drew hS | with_reducible exact sk_drew (sk_alloc hS) | exact sk_alloc hS)
            (first
              | (refine step_append_ints _ (by rfl) (.tmp 55) (.tmp 61) (by rfl) W5.heap.size (.slice (some ⟨W5.heap.size, 0, none⟩) 0 0) 0 [] (by rfl) ((own0 W5 3 1).drew) zo' (m - 1) (lc - 1) (a.fr.getD k []).tail (by rfl) HT.out.len HT.out.nil (HT.out.row.below ((alloc_below W5 _).drew)) (m - 1) (by omega) (a.fr.getD k []).tail (by rfl) (by omega) (by simp) ?_; intro ao1 cap1 w1 own1' grow1; have HB1 : Hid (Below W5.heap.size W5 w1) := (grow_below ((alloc_below W5 _).drew) grow1 (Nat.le_refl _)); have HM1 := hid (own_mine own1'); have HS1 : Hid (SK w.heap.size ⟨⟨some ta, tn, tc⟩, ⟨some fa, fn, fc⟩⟩ (fa.add k) (.slice (some la) m lc) (w.heap.size + 1) ⟨t.ty, gn, 1, t.st, t.sz, t.wa, t.fm, t.va⟩ w1) := (sk_keep HB1.out hS); clear own1' grow1)
              | (go_at_call 55; refine (CL.out _ ⟨ao1, m - 1, cap1⟩ HB1.out HM1.out).mono ?_; rintro e w6 ⟨y1, rfl, hv1, ho1, b⟩; have HV1 := hid hv1; have HO1 := hid ho1; have HB2 := hid (q_trans HB1.out b); have HS2 : Hid (SK w.heap.size ⟨⟨some ta, tn, tc⟩, ⟨some fa, fn, fc⟩⟩ (fa.add k) (.slice (some la) m lc) (w.heap.size + 1) ⟨t.ty, gn, 1, t.st, t.sz, t.wa, t.fm, t.va⟩ w6) := (sk_keep HB2.out hS); clear hv1 ho1)
              | (go_at_call 54; refine (CS.out _ y1 HB2.out HV1.out).mono ?_; rintro e w7 ⟨y2, rfl, hr2⟩; have HR2 := hid hr2; have HB3 := hid (q_trans HB2.out hr2.low); have HS3 : Hid (SK w.heap.size ⟨⟨some ta, tn, tc⟩, ⟨some fa, fn, fc⟩⟩ (fa.add k) (.slice (some la) m lc) (w.heap.size + 1) ⟨t.ty, gn, 1, t.st, t.sz, t.wa, t.fm, t.va⟩ w7) := (sk_keep HB3.out hS); obtain ⟨r0, r1, rf⟩ := (HD.out.below HB3.out).zr.inA; clear hr2)
              | fail)
          have HF : Hid (Rs w ((w7.setCell ⟨w.heap.size + 2, 0, none⟩ (.slice y2.t.o y2.t.n y2.t.c)).setCell ⟨w.heap.size + 2, 1, none⟩ (.slice y2.f.o y2.f.n y2.f.c)) Av ⟨⟨some ta, tn, tc⟩, ⟨some fa, fn, fc⟩⟩ y2 a ⟨a.ts.set q ⟨t.ty, gn, 1, t.st, t.sz, t.wa, t.fm, t.va⟩, a.fr.set k (a.fr.getD k []).tail⟩) :=
            ⟨(HR2.out.has.kept (kept_two w7 (w.heap.size + 2) _ _) (fun _ e => .inr e)).mono (fun _ e => .inl e), fun _ => (HR2.out.o HO1.out).box (HD.out.below HB3.out).zr _ _, low_put (HD.out.below HB3.out).low (by omega)⟩
          clear hS HS1 HS2 HS3
          go_wp2_with fail
          refine bodyPost_ret (v := .tuple #[(.agg #[.slice y2.t.o y2.t.n y2.t.c, .slice y2.f.o y2.f.n y2.f.c]), .int .i64 (q : Int), .int .i64 0]) (by simp [results, Try.results43, go_sem, r0, r1]) rfl ⟨y2, ?_, ?_⟩
          · rw [HE.out, show takeP a (k : Int) t = (q : Int) from (if_pos HE.out).trans HPP.out]
          · rw [show takeA a (k : Int) t = ⟨a.ts.set q ⟨t.ty, gn, 1, t.st, t.sz, t.wa, t.fm, t.va⟩, a.fr.set k (a.fr.getD k []).tail⟩ by
              have e : takeA a (k : Int) t = _ := if_pos HE.out
              rw [e, HPP.out]
              unfold takeT
              rw [at_nat, HGN.out]
              rfl]
            exact HF.out
      | false =>
        have HE := hid (takeE_arg (a := a) (c := (k : Int)) (t := t) (fun k => by rw [hb] at k; cases k.2.2))
        clear hb
        obtain ⟨c0, c1, cf⟩ := HD.out.box
        obtain ⟨r0, r1, rf⟩ := HD.out.zr.inA
        go_wp2_with fail
        refine bodyPost_ret (v := .tuple #[.agg #[.slice xo tn tc, .slice fo fn fc], .int .i64 0, .int .i64 2]) (by simp [results, Try.results43, go_sem, r0, r1]) rfl ⟨⟨⟨xo, tn, tc⟩, ⟨fo, fn, fc⟩⟩, ?_, ?_⟩
        · rw [takeP_no (by rw [HE.out]; decide), HE.out]
        · rw [takeA_no (by rw [HE.out]; decide)]; exact rs_keep HD.out HV.out
    · have HE := hid (takeE_arg (a := a) (c := c) (t := t) (fun k => hin ⟨k.2.1.1, by have := k.2.1.2; have := HFN.out; omega⟩))
      obtain ⟨c0, c1, cf⟩ := HD.out.box
      obtain ⟨r0, r1, rf⟩ := HD.out.zr.inA
      by_cases hc0 : 0 ≤ c
      · have hc1 : ¬ c < (fn : Int) := fun e => hin ⟨hc0, e⟩
        clear hin
        go_wp2_with fail
        refine bodyPost_ret (v := .tuple #[.agg #[.slice xo tn tc, .slice fo fn fc], .int .i64 0, .int .i64 2]) (by simp [results, Try.results43, go_sem, r0, r1]) rfl ⟨⟨⟨xo, tn, tc⟩, ⟨fo, fn, fc⟩⟩, ?_, ?_⟩
        · rw [takeP_no (by rw [HE.out]; decide), HE.out]
        · rw [takeA_no (by rw [HE.out]; decide)]; exact rs_keep HD.out HV.out
      · clear hin
        go_wp2_with fail
        refine bodyPost_ret (v := .tuple #[.agg #[.slice xo tn tc, .slice fo fn fc], .int .i64 0, .int .i64 2]) (by simp [results, Try.results43, go_sem, r0, r1]) rfl ⟨⟨⟨xo, tn, tc⟩, ⟨fo, fn, fc⟩⟩, ?_, ?_⟩
        · rw [takeP_no (by rw [HE.out]; decide), HE.out]
        · rw [takeA_no (by rw [HE.out]; decide)]; exact rs_keep HD.out HV.out
  · rw [okA_no hok]
    have HE := hid (takeE_arg (a := a) (c := c) (t := t) (fun k => hok k.1))
    clear hok
    obtain ⟨c0, c1, cf⟩ := HD.out.box
    obtain ⟨r0, r1, rf⟩ := HD.out.zr.inA
    go_wp2_with fail
    refine bodyPost_ret (v := .tuple #[.agg #[.slice xo tn tc, .slice fo fn fc], .int .i64 0, .int .i64 2]) (by simp [results, Try.results43, go_sem, r0, r1]) rfl ⟨⟨⟨xo, tn, tc⟩, ⟨fo, fn, fc⟩⟩, ?_, ?_⟩
    · rw [takeP_no (by rw [HE.out]; decide), HE.out]
    · rw [takeA_no (by rw [HE.out]; decide)]; exact rs_keep HD.out HV.out
end Go.Proofs.Ytnagpedkmfmniaa.Ar

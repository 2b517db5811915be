/- What the document's set and list do. -/
import Derived.Test.YtnagpedkmfmniaaArTake
import Derived.Test.YtnagpedkmfmniaaArDrop
import Derived.Test.YtnagpedkmfmniaaArMore
namespace Go.Proofs.Ytnagpedkmfmniaa.Ar
open Go.RowKit Go.Proofs.Ytnagpedkmfmniaa.Ha

/-- AN ARENA THAT LIES IN NONE OF THE BLOCKS Av. -/
structure HasW (w : World) (Av : Nat → Prop) (x : Wh) (a : Ar) (hs : List Hd) : Prop where
  t : HasT w x.t.o x.t.n x.t.c a.ts
  f : HasF w x.f.o x.f.n x.f.c hs a.fr
  ot : Off Av x.t.o (ths a.ts)
  of : Off Av x.f.o (hds hs)
  oe : ∀ i, i < a.fr.length → Off Av (hs.getD i Hd.zero).o (vals (a.fr.getD i []))
theorem HasW.has {w : World} {Av : Nat → Prop} {x : Wh} {a : Ar} {hs : List Hd} (h : HasW w Av x a hs) : HasA w x a := ⟨h.t, hs, h.f⟩
theorem HasW.kept {w w' : World} {S Av : Nat → Prop} {x : Wh} {a : Ar} {hs : List Hd} (h : HasW w Av x a hs) (k : Kept S w w') (hS : ∀ i, S i → Av i) : HasW w' Av x a hs := by
  have off : ∀ {ao : Option Addr} {cs : List Value}, Off Av ao cs → Off S ao cs := fun h h0 a e s => h h0 a e (hS _ s)
  exact ⟨⟨h.t.len, h.t.nil, h.t.le, h.t.row.kept k (off h.ot)⟩, ⟨h.f.len, h.f.hl, h.f.nil, h.f.le, h.f.row.kept k (off h.of), fun i hi => (h.f.each i hi).kept k (off (h.oe i hi))⟩, h.ot, h.of, h.oe⟩
def HasV (w : World) (Av : Nat → Prop) (x : Wh) (a : Ar) : Prop := ∃ hs, HasW w Av x a hs
theorem HasV.has {w : World} {Av : Nat → Prop} {x : Wh} {a : Ar} (h : HasV w Av x a) : HasA w x a := h.elim fun _ h => h.has
theorem HasV.kept {w w' : World} {S Av : Nat → Prop} {x : Wh} {a : Ar} (h : HasV w Av x a) (k : Kept S w w') (hS : ∀ i, S i → Av i) : HasV w' Av x a := h.elim fun hs h => ⟨hs, h.kept k hS⟩
theorem HasV.below {w w' : World} {Av : Nat → Prop} {x : Wh} {a : Ar} (h : HasV w Av x a) (b : Below w.heap.size w w') : HasV w' Av x a := h.kept (S := fun _ => False) (kept_below b) (fun _ e => e.elim)
theorem off_row {w : World} {Av : Nat → Prop} {ao : Option Addr} {cs : List Value} (h : Row w ao cs) (hA : ∀ k, Av k → w.heap.size ≤ k) : Off Av ao cs := by
  intro h0 a e s
  obtain ⟨a', e', hl⟩ := h.lt h0
  rw [e] at e'
  cases e'
  have := hA _ s
  omega
theorem hasV_of {w V : World} {Av : Nat → Prop} {x : Wh} {a : Ar} (h : HasA w x a) (b : Below w.heap.size w V) (hA : ∀ k, Av k → w.heap.size ≤ k) : HasV V Av x a := by
  obtain ⟨hs, hF⟩ := h.f
  exact ⟨hs, h.t.below b, hF.below b, off_row h.t.row hA, off_row hF.row hA, fun i hi => off_row (hF.each i hi).row hA⟩
/-- What is answered is as well laid as what was handed in. -/
structure Rs (w w' : World) (Av : Nat → Prop) (x y : Wh) (a a' : Ar) : Prop where
  has : HasV w' Av y a'
  o : HasO w x a → HasO w' y a'
  low : Below w.heap.size w w'
theorem kept_three (W : World) (s r h j : Nat) (hr : s ≤ r) (hh : r < h) (u v z : Value) : Kept (fun k => s ≤ k ∧ k < h) W (((W.setCell ⟨s, j, none⟩ u).setCell ⟨r, 0, none⟩ v).setCell ⟨r, 1, none⟩ z) := by
  refine Kept.setCell (Kept.setCell (Kept.setCell (Kept.refl _ _) _ _ (fun _ => ?_)) _ _ (fun _ => ?_)) _ _ (fun _ => ?_)
  · show s ≤ s ∧ s < h
    omega
  · show s ≤ r ∧ r < h
    omega
  · show s ≤ r ∧ r < h
    omega
set_option maxRecDepth 100000 in
set_option maxHeartbeats 2000000 in
/-- Another thing at a place. -/
theorem rset_any (Av : Nat → Prop) (x : Wh) (a : Ar) (q : Nat) (t : Th) (w : World) (HS : Hid (Sm a)) (HQ : Hid (q < a.ts.length)) (HV : Hid (HasV w Av x a)) (HAV : Hid (∀ k, Av k → k < w.heap.size)) :
    Calls Try.prog 54 #[(.agg #[.slice x.t.o x.t.n x.t.c, .slice x.f.o x.f.n x.f.c]), .int .i64 q, (.agg #[.int .i64 t.ty, .int .i64 t.gen, .int .i64 t.refs, .int .i64 t.st, .int .i64 t.sz, .int .i64 t.wa, .int .i64 t.fm, .int .i64 t.va])] w fun e w' => ∃ y : Wh, e = .returned (.agg #[.slice y.t.o y.t.n y.t.c, .slice y.f.o y.f.n y.f.c]) ∧ Rs w w' Av x y a ⟨a.ts.set q t, a.fr⟩ := by
  have HH := hid HV.out.has
  have HN := hid HH.out.tn
  have HD := hid (dt_new w x t)
  go_enter Try.func54, Try.ntmps54
  go_upto_region 1 with fail
  generalize ((w.alloc (.cells #[.slice x.t.o x.t.n x.t.c, .slice x.f.o x.f.n x.f.c] 25)).alloc (.cells #[.int .i64 t.ty, .int .i64 t.gen, .int .i64 t.refs, .int .i64 t.st, .int .i64 t.sz, .int .i64 t.wa, .int .i64 t.fm, .int .i64 t.va] 40)).alloc (.cells #[.slice none 0 0, .slice none 0 0] 25) = V at HD ⊢
  have HT := hid (HH.out.below HD.out.low).t
  have HCAP := hid HH.out.t.nil
  obtain ⟨c0, c1, cf⟩ := HD.out.box
  have n1 : w.heap.size < V.heap.size := HD.out.box.lt
  go_wp2_with (at_builtin; go_loud (refine wpList_append_row _ rfl (.tmp 8) (.tmp 10) 22 40 _ 8 64 rfl Try.underlying22 infoT rfl (by decide) (by decide) V.heap.size _ 0 [] rfl (own0 V 40 8) x.t.o x.t.n x.t.c (ths a.ts) rfl (by rw [len_ths, ← HN.out]) (fun h => HCAP.out h) (HT.out.row.below (alloc_below V _)) (ths_one a.ts) (by have := HN.out; have := HS.out.t; omega) (alloc_below V _).size ?_; intro ao1 cap1 w1 hown1 hgrow1; apply Hid.out))
  have b1 := app_below hgrow1
  rw [Nat.zero_add, List.nil_append] at hown1
  obtain ⟨g, e, hg⟩ := own_head hown1 (by have := HN.out; have := HQ.out; omega)
  subst e
  obtain ⟨o0, o1, o2, o3, o4, o5, o6, o7⟩ := own_at hown1 q HQ.out
  have ofz : ∀ j, w1.frozen? ⟨g, j, none⟩ = false := fun j => own_frozen hown1
  have HW := hid hown1
  have HB := hid b1
  have HG := hid hg
  have q1 : (0 : Int) ≤ (q : Int) := by omega
  have q2 : (q : Int) < (x.t.n : Int) := by have := HN.out; have := HQ.out; omega
  clear c0 c1 cf hown1 hgrow1 b1 hg n1
  obtain ⟨t0, t1, t2, t3, t4, t5, t6, t7, tf⟩ := HD.out.tb.below HB.out
  unfold Hid
  go_upto_region 3 with fail
  clear o0 o1 o2 o3 o4 o5 o6 o7 ofz t0 t1 t2 t3 t4 t5 t6 t7 tf
  have K8 := hid (kept_eight w1 g (q * 8) t)
  have HW2 : Hid (((((((((w1.setCell ⟨g, q * 8, none⟩ (.int .i64 t.ty)).setCell ⟨g, q * 8 + 1, none⟩ (.int .i64 t.gen)).setCell ⟨g, q * 8 + 2, none⟩ (.int .i64 t.refs)).setCell ⟨g, q * 8 + 3, none⟩ (.int .i64 t.st)).setCell ⟨g, q * 8 + 4, none⟩ (.int .i64 t.sz)).setCell ⟨g, q * 8 + 5, none⟩ (.int .i64 t.wa)).setCell ⟨g, q * 8 + 6, none⟩ (.int .i64 t.fm)).setCell ⟨g, q * 8 + 7, none⟩ (.int .i64 t.va)).ownsRow V.heap.size 40 8 (.slice (some ⟨g, 0, none⟩) x.t.n cap1) x.t.n (ths (a.ts.set q t))) := by
    have := own_setS (j := q * 8 + 7) (.int .i64 t.va) (own_setS (j := q * 8 + 6) (.int .i64 t.fm) (own_setS (j := q * 8 + 5) (.int .i64 t.wa) (own_setS (j := q * 8 + 4) (.int .i64 t.sz) (own_setS (j := q * 8 + 3) (.int .i64 t.st) (own_setS (j := q * 8 + 2) (.int .i64 t.refs) (own_setS (j := q * 8 + 1) (.int .i64 t.gen) (own_setS (j := q * 8) (.int .i64 t.ty) HW.out)))))))
    rwa [ths_set a.ts q t HQ.out] at this
  generalize (((((((w1.setCell _ _).setCell _ _).setCell _ _).setCell _ _).setCell _ _).setCell _ _).setCell _ _).setCell _ _ = W2 at K8 HW2 ⊢
  have HL2 : Hid (Below w.heap.size w W2) := (q_trans HD.out.low HB.out).trans (K8.out.below w.heap.size (q_trans HD.out.low HB.out).size (fun i e => by have := HG.out; have := HD.out.sz; omega))
  have HX2 : Hid (InA W2 w.heap.size x) := (HD.out.box.below HB.out).kept K8.out (by have := HG.out; have := HD.out.sz; omega)
  have HR2 : Hid (InA W2 (w.heap.size + 2) Wh.zero) := (HD.out.res.below HB.out).kept K8.out (by have := HG.out; have := HD.out.sz; omega)
  clear HW K8 HB HT
  obtain ⟨c0, c1, cf⟩ := HX2.out
  obtain ⟨r0, r1, rf⟩ := HR2.out
  go_wp2_with fail
  have K3 := kept_three W2 w.heap.size (w.heap.size + 1 + 1) V.heap.size 0 (by omega) (by have := HD.out.sz; omega) (.slice (some ⟨g, 0, none⟩) x.t.n cap1) (.slice (some ⟨g, 0, none⟩) x.t.n cap1) (.slice x.f.o x.f.n x.f.c)
  have lo : Below w.heap.size w _ := HL2.out.trans (K3.below w.heap.size HL2.out.size (fun i e => e.1))
  have ht := own_kept HW2.out K3 (fun i e s => by cases e; have := HG.out; have s2 : g < V.heap.size := s.2; omega)
  obtain ⟨u1, u2, u3, u4⟩ := own_row ht
  have hA : HasV (((W2.setCell ⟨w.heap.size, 0, none⟩ (.slice (some ⟨g, 0, none⟩) x.t.n cap1)).setCell ⟨w.heap.size + 1 + 1, 0, none⟩ (.slice (some ⟨g, 0, none⟩) x.t.n cap1)).setCell ⟨w.heap.size + 1 + 1, 1, none⟩ (.slice x.f.o x.f.n x.f.c)) Av ⟨⟨some ⟨g, 0, none⟩, x.t.n, cap1⟩, x.f⟩ ⟨a.ts.set q t, a.fr⟩ := by
    obtain ⟨hs, hx⟩ := HV.out.below lo
    refine ⟨hs, ⟨by rw [List.length_set]; exact HN.out, u3, u2, u1⟩, hx.f, fun _ a' e s => ?_, hx.of, hx.oe⟩
    have h4 := (u4 a' e).1
    have h5 := HAV.out _ s
    have := HD.out.sz
    omega
  refine bodyPost_ret (v := .agg #[.slice (some ⟨g, 0, none⟩) x.t.n cap1, .slice x.f.o x.f.n x.f.c]) (by simp [results, Try.results54, go_sem, r0, r1]) rfl ⟨⟨⟨some ⟨g, 0, none⟩, x.t.n, cap1⟩, x.f⟩, rfl, hA, fun h => ⟨hA.has, (h.below lo).ft⟩, lo⟩
set_option maxRecDepth 100000 in
set_option maxHeartbeats 2000000 in
/-- Another list of a core. -/
theorem rlist_any (Av : Nat → Prop) (x : Wh) (a : Ar) (k : Nat) (v : Hd) (l : List Int) (w : World) (HS : Hid (Sm a)) (HK : Hid (k < a.fr.length)) (HX : Hid (HasV w Av x a)) (HAV : Hid (∀ k, Av k → k < w.heap.size)) (HV : Hid (Has w v.o v.n v.c l)) (HVO : Hid (Off Av v.o (vals l))) :
    Calls Try.prog 55 #[(.agg #[.slice x.t.o x.t.n x.t.c, .slice x.f.o x.f.n x.f.c]), .int .i64 k, .slice v.o v.n v.c] w fun e w' => ∃ y : Wh, e = .returned (.agg #[.slice y.t.o y.t.n y.t.c, .slice y.f.o y.f.n y.f.c]) ∧ HasV w' Av y ⟨a.ts, a.fr.set k l⟩ ∧ HasO w' y ⟨a.ts, a.fr.set k l⟩ ∧ Below w.heap.size w w' := by
  have HH := hid HX.out.has
  have HN := hid HH.out.fn
  have HD := hid (dd_new w x)
  obtain ⟨hs, hX0⟩ := HX.out
  have HX0 := hid hX0
  have HF0 := hid hX0.f
  clear hX0
  go_enter Try.func55, Try.ntmps55
  go_upto_region 1 with fail
  generalize (w.alloc (.cells #[.slice x.t.o x.t.n x.t.c, .slice x.f.o x.f.n x.f.c] 25)).alloc (.cells #[.slice none 0 0, .slice none 0 0] 25) = V at HD ⊢
  have HT := hid (HF0.out.below HD.out.low)
  obtain ⟨c0, c1, cf⟩ := HD.out.box
  have n1 : w.heap.size < V.heap.size := HD.out.box.lt
  go_wp2_with (at_builtin; go_loud (refine wpList_append_row _ rfl (.tmp 8) (.tmp 10) 23 49 _ 1 24 rfl Try.underlying23 infoF rfl (by decide) (by decide) V.heap.size _ 0 [] rfl (own0 V 49 1) x.f.o x.f.n x.f.c (hds hs) rfl (by rw [len_hds, HF0.out.hl, ← HN.out]; simp) (fun h => HF0.out.nil h) (HT.out.row.below (alloc_below V _)) (hds_one hs) (by have := HN.out; have := HS.out.f; omega) (alloc_below V _).size ?_; intro ao1 cap1 w1 hown1 hgrow1; apply Hid.out))
  have b1 := app_below hgrow1
  rw [Nat.zero_add, List.nil_append] at hown1
  obtain ⟨g, e, hg⟩ := own_head hown1 (by have := HN.out; have := HK.out; omega)
  subst e
  obtain ⟨_, e, ci⟩ := (own_row hown1).1.cell k _ (hds_at hs k (by rw [HF0.out.hl]; exact HK.out))
  cases e
  rw [add0] at ci
  have ofz : w1.frozen? ⟨g, k, none⟩ = false := own_frozen hown1
  have HW := hid hown1
  have HB := hid b1
  have HG := hid hg
  have q1 : (0 : Int) ≤ (k : Int) := by omega
  have q2 : (k : Int) < (x.f.n : Int) := by have := HN.out; have := HK.out; omega
  clear c0 c1 cf hown1 hgrow1 b1 hg n1
  unfold Hid
  go_upto_region 3 with fail
  have K8 : Hid (Kept (fun i => i = g) w1 (w1.setCell ⟨g, k, none⟩ (.slice v.o v.n v.c))) := kept_set _ w1 _ _ rfl
  have HW2 : Hid ((w1.setCell ⟨g, k, none⟩ (.slice v.o v.n v.c)).ownsRow V.heap.size 49 1 (.slice (some ⟨g, 0, none⟩) x.f.n cap1) x.f.n (hds (hs.set k v))) := by
    have := own_setS (j := k) (.slice v.o v.n v.c) HW.out
    rwa [hds, show (Value.slice v.o v.n v.c) = v.v from rfl, ← List.map_set] at this
  clear ci ofz
  generalize w1.setCell _ _ = W2 at K8 HW2 ⊢
  have HL2 : Hid (Below w.heap.size w W2) := (q_trans HD.out.low HB.out).trans (K8.out.below w.heap.size (q_trans HD.out.low HB.out).size (fun i e => by have := HG.out; have := HD.out.sz; omega))
  have HX2 : Hid (InA W2 w.heap.size x) := (HD.out.box.below HB.out).kept K8.out (by have := HG.out; have := HD.out.sz; omega)
  have HR2 : Hid (InA W2 (w.heap.size + 1) Wh.zero) := (HD.out.res.below HB.out).kept K8.out (by have := HG.out; have := HD.out.sz; omega)
  clear HW K8 HB HT
  obtain ⟨c0, c1, cf⟩ := HX2.out
  obtain ⟨r0, r1, rf⟩ := HR2.out
  go_wp2_with fail
  have K3 := kept_three W2 w.heap.size (w.heap.size + 1) V.heap.size 1 (by omega) (by have := HD.out.sz; omega) (.slice (some ⟨g, 0, none⟩) x.f.n cap1) (.slice x.t.o x.t.n x.t.c) (.slice (some ⟨g, 0, none⟩) x.f.n cap1)
  have lo : Below w.heap.size w _ := HL2.out.trans (K3.below w.heap.size HL2.out.size (fun i e => e.1))
  have ht := own_kept HW2.out K3 (fun i e s => by cases e; have := HG.out; have s2 : g < V.heap.size := s.2; omega)
  obtain ⟨u1, u2, u3, u4⟩ := own_row ht
  have hA : HasV (((W2.setCell ⟨w.heap.size, 1, none⟩ (.slice (some ⟨g, 0, none⟩) x.f.n cap1)).setCell ⟨w.heap.size + 1, 0, none⟩ (.slice x.t.o x.t.n x.t.c)).setCell ⟨w.heap.size + 1, 1, none⟩ (.slice (some ⟨g, 0, none⟩) x.f.n cap1)) Av ⟨x.t, ⟨some ⟨g, 0, none⟩, x.f.n, cap1⟩⟩ ⟨a.ts, a.fr.set k l⟩ := by
    have hx := HX0.out.kept (S := fun _ => False) (kept_below lo) (fun _ e => e.elim)
    refine ⟨hs.set k v, hx.t, HF0.out.set k v l lo u3 u2 u1 (HV.out.below lo), hx.ot, fun _ a' e s => ?_, fun i hi => ?_⟩
    · have h4 := (u4 a' e).1
      have h5 := HAV.out _ s
      have := HD.out.sz
      omega
    · simp only [List.length_set] at hi
      by_cases e : i = k
      · subst e
        rw [show (hs.set i v).getD i Hd.zero = v by simp [List.getD, HF0.out.hl, hi], show (a.fr.set i l).getD i [] = l by simp [List.getD, hi]]
        exact HVO.out
      · have e2 : k ≠ i := fun x => e x.symm
        rw [show (hs.set k v).getD i Hd.zero = hs.getD i Hd.zero by simp [List.getD, e2], show (a.fr.set k l).getD i [] = a.fr.getD i [] by simp [List.getD, e2]]
        exact hx.oe i hi
  refine bodyPost_ret (v := .agg #[.slice x.t.o x.t.n x.t.c, .slice (some ⟨g, 0, none⟩) x.f.n cap1]) (by simp [results, Try.results55, go_sem, r0, r1]) rfl ⟨⟨x.t, ⟨some ⟨g, 0, none⟩, x.f.n, cap1⟩⟩, rfl, hA, ⟨hA.has, fun g' e => ?_⟩, lo⟩
  cases e
  rcases ht.2 with ⟨e2, _⟩ | ⟨g', c, cur, e2, _, hg, _⟩
  · cases e2
  · cases e2; exact ⟨cur, hg⟩
end Go.Proofs.Ytnagpedkmfmniaa.Ar

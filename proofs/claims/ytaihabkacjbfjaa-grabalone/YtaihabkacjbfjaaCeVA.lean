/- What Do does. -/
import Derived.Test.YtaihabkacjbfjaaCeV9
namespace Go.Proofs.Ytaihabkacjbfjaa.Ce
open Go.RowKit

attribute [local go_sem ↓] Go.wp_at_zero Go.wp_at_succ

theorem note_any (r : Rc) (p : Nat) (sv : Value) (tao : Option Addr) (n tcap : Nat) (tr : List Rc) (B : Nat) (w : World) (hn : n ≤ 50000)
    (hB : w.heap[p]? = some (.cells #[sv, .int .i64 n, .slice tao tr.length tcap] 63 (0, 0)))
    (hT : w.ownsRow B 70 7 (.slice tao tr.length tcap) tr.length (recs tr)) (hP : ∀ a, tao = some a → a.block ≠ p) (hBP : B ≤ p) (tr' : List Rc) (htr : (if tr.length < 2000 then tr ++ [r] else tr) = tr') :
    Calls Try.prog 41 #[.pointer (some ⟨p, 0, none⟩), (.agg #[.int .i64 r.o.k, .int .i64 r.o.c, .int .i64 r.o.a, .int .i64 r.o.v, .int .i64 r.o.w, .int .i64 r.got, .bool r.ok])] w fun e w' => e = .returned (.tuple #[]) ∧ ∃ tao' tcap', w'.heap[p]? = some (.cells #[sv, .int .i64 (n + 1), .slice tao' tr'.length tcap'] 63 (0, 0)) ∧
      w'.ownsRow B 70 7 (.slice tao' tr'.length tcap') tr'.length (recs tr') ∧ Kept (fun i => i = p ∨ ∃ a, tao = some a ∧ a.block = i) w w' ∧ Moved w tao tao' := by
  subst htr
  by_cases h : tr.length < 2000
  · rw [if_pos h]
    refine (note_more r p sv tao n tr.length tcap tr B w h hn hB hT hP hBP).mono ?_
    rintro e w' ⟨rfl, tao', tcap', h1, h2, h3, h4⟩
    exact ⟨rfl, tao', tcap', by simpa using h1, by simpa using h2, h3, h4⟩
  · rw [if_neg h]
    refine (note_full r p sv tao n tr.length tcap w (by omega) hn hB).mono ?_
    rintro e w' ⟨rfl, h1, h2⟩
    refine ⟨rfl, tao, tcap, h1, own_kept hT h2 (fun i e => ?_), h2.mono (fun i _ e => .inl e), fun a e => .inl ⟨a, e, rfl⟩⟩
    cases tao with
    | none => cases e
    | some a => cases e; exact hP a rfl

/-! ### Later worlds -/
/-- A WORLD THAT CAME AFTER w. -/
structure Later (w : World) where
  now : World
  low : Below w.heap.size w now
theorem Later.cell {w : World} (g : Later w) {a : Addr} {v : Value} (h : w.cell? a = some v) : g.now.cell? a = some v := (g.low.cell (World.block_lt_of_cell? w a h)).trans h
/-- A REGION THAT DRAWS ITS ORDER, EVERY OPERATION OF WHICH YIELDS ONE VALUE IN EVERY LATER WORLD: ONE WALK. -/
theorem wp_region_later {P : Program} {id : Nat} {Q : Exit → Act → World → Prop} {a : Act} {w : World} {l : List Oper} (hm : P.follows .mixedOrders = true) (hB : Region.lexB .any l.toArray = true)
    (h : wpQuiet P l.toArray (fun w' => ∃ g : Later w, w' = g.now) (fun a' => ∀ w', (∃ g : Later w, w' = g.now) → Q .normal a' w') l a) : (Code.region id l.toArray true).wp P Q a w :=
  wp_region_quiet (C := fun w' => ∃ g : Later w, w' = g.now) hm hB ⟨⟨_, (Below.refl _ w).drew⟩, rfl⟩ (by simpa using h)
theorem later_call {P : Program} {f : FuncId} {args : Array Value} {w : World} {g : Later w} {v : Value}
    (h : Calls P f args g.now fun e w' => e = .returned v ∧ Below g.now.heap.size g.now w') : Calls P f args g.now fun e w'' => e = .returned v ∧ ∃ g' : Later w, w'' = g'.now :=
  h.mono fun _ w' ⟨he, hb⟩ => ⟨he, ⟨w', q_trans g.low hb⟩, rfl⟩
theorem later_same {P : Program} {f : FuncId} {args : Array Value} {w : World} {g : Later w} {v : Value}
    (h : Calls P f args g.now fun e w' => e = .returned v ∧ w' = g.now) : Calls P f args g.now fun e w'' => e = .returned v ∧ ∃ g' : Later w, w'' = g'.now :=
  h.mono fun _ w' ⟨he, hb⟩ => ⟨he, ⟨w', hb ▸ g.low⟩, rfl⟩
theorem InO.always {w : World} {b : Nat} {o : O} (h : InO w b o) : (∀ g : Later w, g.now.cell? ⟨b, 0, none⟩ = some (.int .i64 o.k)) ∧ (∀ g : Later w, g.now.cell? ⟨b, 1, none⟩ = some (.int .i64 o.c)) ∧ (∀ g : Later w, g.now.cell? ⟨b, 2, none⟩ = some (.int .i64 o.a)) ∧ (∀ g : Later w, g.now.cell? ⟨b, 3, none⟩ = some (.int .i64 o.v)) ∧ (∀ g : Later w, g.now.cell? ⟨b, 4, none⟩ = some (.int .i64 o.w)) :=
  ⟨fun g => g.cell h.c0, fun g => g.cell h.c1, fun g => g.cell h.c2, fun g => g.cell h.c3, fun g => g.cell h.c4⟩

theorem cell_set {w : World} {b i j : Nat} {v u : Value} (h : w.cell? ⟨b, j, none⟩ = some u) : (w.setCell ⟨b, i, none⟩ v).cell? ⟨b, j, none⟩ = some (if i = j then v else u) := by
  by_cases e : i = j
  · subst e
    rw [if_pos rfl]
    exact World.cell?_setCell_same _ _ _ h
  · rw [if_neg e]
    exact (World.cell?_setCell_other _ _ _ _ (fun h => e (congrArg Addr.off h))).trans h
theorem inR_store {w : World} {b : Nat} {z r : Rc} (h : InR w b z) : InR (((((((w.setCell ⟨b, 0, none⟩ (.int .i64 r.o.k)).setCell ⟨b, 1, none⟩ (.int .i64 r.o.c)).setCell ⟨b, 2, none⟩ (.int .i64 r.o.a)).setCell ⟨b, 3, none⟩ (.int .i64 r.o.v)).setCell ⟨b, 4, none⟩ (.int .i64 r.o.w)).setCell ⟨b, 5, none⟩ (.int .i64 r.got)).setCell ⟨b, 6, none⟩ (.bool r.ok)) b r := by
  obtain ⟨h0, h1, h2, h3, h4, h5, h6, hf⟩ := h
  have g := fun {j : Nat} {u : Value} (h : w.cell? ⟨b, j, none⟩ = some u) => cell_set (i := 6) (v := .bool r.ok) (cell_set (i := 5) (v := .int .i64 r.got) (cell_set (i := 4) (v := .int .i64 r.o.w) (cell_set (i := 3) (v := .int .i64 r.o.v) (cell_set (i := 2) (v := .int .i64 r.o.a) (cell_set (i := 1) (v := .int .i64 r.o.c) (cell_set (i := 0) (v := .int .i64 r.o.k) h))))))
  refine ⟨(g h0).trans (by simp), (g h1).trans (by simp), (g h2).trans (by simp), (g h3).trans (by simp), (g h4).trans (by simp), (g h5).trans (by simp), (g h6).trans (by simp), fun i => by simpa using hf i⟩
/-- Behind the change, and the record laid. -/
structure Aft (w X : World) (R g : Nat) (r : Rc) (B n vcap : Nat) (l : List Int) : Prop where
  inr : InR X R r
  low : w.heap.size ≤ R
  own : X.ownsRow B 2 1 (.slice (some ⟨g, 0, none⟩) n vcap) n (vals l)
  kept : Kept (fun i => i = g) w X
theorem kept_of_drew {S : Nat → Prop} {w w' : World} (k : Kept S w.drew w') : Kept S w w' := ⟨k.os, k.tape, k.output, k.size, k.block⟩
theorem kept_of_alloc {S : Nat → Prop} {w w' : World} {o : Obj} (k : Kept S (w.drew.alloc o) w') : Kept S w w' := ((kept_below (S := S) (Below.refl _ w)).drew.alloc o).trans k (fun _ _ e => e)
section
variable {w : World} {B p g vcap : Nat} {tao : Option Addr} {tcap : Nat} {s : S}
set_option maxRecDepth 100000 in
set_option maxHeartbeats 1000000 in
theorem do_no (HC : Hid (Cel w B p g vcap tao tcap s)) (o : O) (n : Nat) (HN : Hid (s.vs.length = n)) (hok : Hid (okO o n = false)) :
    Calls Try.prog 35 #[.pointer (some ⟨p, 0, none⟩), (.agg #[.int .i64 o.k, .int .i64 o.c, .int .i64 o.a, .int .i64 o.v, .int .i64 o.w])] w fun e w' => e = .returned (.tuple #[.int .i64 0, .bool false, .int .i64 2]) ∧ Below w.heap.size w w' := by
  go_enter Try.func35, Try.ntmps35
  go_wp2_with fail
  generalize hW : w.alloc (.cells #[.int .i64 o.k, .int .i64 o.c, .int .i64 o.a, .int .i64 o.v, .int .i64 o.w] 35) = W
  have HB : Hid (Below w.heap.size w W) := by rw [← hW]; exact alloc_below w _
  have HO : InO W w.heap.size o := by rw [← hW]; exact inO_new w o _
  have HCW := (HC.out.below HB.out).cells
  rw [HN.out] at HCW
  obtain ⟨c0, c1, c2, c3, c4⟩ := HO.always
  obtain ⟨k0, -, -, -⟩ := HCW
  have d0 : ∀ g : Later W, g.now.cell? ⟨p, 0, none⟩ = some (.slice (some ⟨_, 0, none⟩) n vcap) := fun g => g.cell k0
  have hne : Nonempty (Later W) := ⟨⟨W, Below.refl _ _⟩⟩
  clear hW HO k0
  refine wp_region_later (by kernel_rfl) (by kernel_rfl) ?_
  repeat (go_big_quiet_step ((go_at_call 39; exact later_call (check_no o n _ hok.out))))
  refine wpQuiet_nil ?_
  rintro w3 ⟨⟨_, b3⟩, rfl⟩
  have HB3 := hid (q_trans HB.out b3)
  clear b3 c0 c1 c2 c3 c4 d0 hne
  go_wp2_with fail
  exact bodyPost_ret (v := .tuple #[.int .i64 0, .bool false, .int .i64 2]) (by simp [results, Try.results35, go_sem]) rfl ⟨rfl, HB3.out⟩

theorem do_blk {n : Nat} {w3 X : World} {R : Nat} {r : Rc} {l' : List Int} (HN : Hid (s.vs.length = n)) (HC3 : Hid (Cel w3 B p g vcap tao tcap s)) (HX : Hid (Aft w3 X R g r B n vcap l')) :
    X.heap[p]? = some (.cells #[.slice (some ⟨g, 0, none⟩) n vcap, .int .i64 s.n, .slice tao s.tr.length tcap] 63 (0, 0)) := by
  rw [← HN.out]
  exact (HX.out.kept.block p (HC3.out.lt p (.inl rfl)).2 HC3.out.hpg).trans HC3.out.blk
theorem do_tra {n : Nat} {w3 X : World} {R : Nat} {r : Rc} {l' : List Int} (HC3 : Hid (Cel w3 B p g vcap tao tcap s)) (HX : Hid (Aft w3 X R g r B n vcap l')) :
    X.ownsRow B 70 7 (.slice tao s.tr.length tcap) s.tr.length (recs s.tr) :=
  own_kept HC3.out.tra HX.out.kept (fun i e => by
    cases tao with
    | none => cases e
    | some a => cases e; exact HC3.out.htg a rfl)
theorem do_far {n : Nat} {w3 X : World} {R : Nat} {r : Rc} {l' : List Int} (HC3 : Hid (Cel w3 B p g vcap tao tcap s)) (HX : Hid (Aft w3 X R g r B n vcap l')) :
    ¬ (R = p ∨ ∃ a, tao = some a ∧ a.block = R) := by
  have h := HX.out.low
  rintro (e | ⟨a, e, e2⟩)
  · have := (HC3.out.lt p (.inl rfl)).2; omega
  · have := (HC3.out.lt a.block (.inr (.inr ⟨a, e, rfl⟩))).2; omega
theorem do_end (HC : Hid (Cel w B p g vcap tao tcap s)) (o : O) (n : Nat) (r : Rc) (HN : Hid (s.vs.length = n)) (hok : Hid (okO o n = true)) (HR : Hid (apR s.vs o = r)) (w3 : World) (HB3 : Hid (Below w.heap.size w w3))
    (X : World) (R : Nat) (l' : List Int) (HL : Hid (apV s.vs o = l')) (HX : Hid (Aft w3 X R g r B n vcap l')) (w5 : World) (tao' : Option Addr) (tcap' : Nat)
    (h1 : w5.heap[p]? = some (.cells #[.slice (some ⟨g, 0, none⟩) n vcap, .int .i64 (s.n + 1), .slice tao' (if s.tr.length < 2000 then s.tr ++ [r] else s.tr).length tcap'] 63 (0, 0)))
    (h2 : w5.ownsRow B 70 7 (.slice tao' (if s.tr.length < 2000 then s.tr ++ [r] else s.tr).length tcap') (if s.tr.length < 2000 then s.tr ++ [r] else s.tr).length (recs (if s.tr.length < 2000 then s.tr ++ [r] else s.tr)))
    (k6 : Kept (fun i => i = p ∨ ∃ a, tao = some a ∧ a.block = i) X w5) (mv : Moved X tao tao') :
    ∀ nq, Cel (w5.drewN nq) B p g vcap tao' tcap' (s.step o) ∧ Kept (foot p g tao) w (w5.drewN nq) ∧ Moved w tao tao' := by
  intro nq
  have hok' : okO o s.vs.length = true := by rw [HN.out]; exact hok.out
  rw [S.step_yes hok', HR.out, HL.out]
  have hl : l'.length = n := by rw [← HL.out, apV_len, HN.out]
  have hs : w.heap.size ≤ X.heap.size := Nat.le_trans HB3.out.size HX.out.kept.size
  have hpl := HC.out.lt p (.inl rfl)
  have hgl := HC.out.lt g (.inr (.inl rfl))
  have htl := fun (a : Addr) (e : tao = some a) => HC.out.lt a.block (.inr (.inr ⟨a, e, rfl⟩))
  have mv' : Moved w tao tao' := fun a e => (mv a e).elim .inl (fun h => .inr (Nat.le_trans hs h))
  have kk : Kept (foot p g tao) w w5 := ((kept_below HB3.out).trans HX.out.kept (fun i _ e => .inr (.inl e))).trans k6 (fun i _ e => e.elim .inl (fun e => .inr (.inr e)))
  refine ⟨?_, kk.drewN nq, mv'⟩
  exact {
    blk := by rw [hl]; exact h1
    val := by
      rw [hl]
      exact own_kept HX.out.own (k6.drewN nq) (fun i e => by
        cases e
        rintro (e | ⟨a, e, e2⟩)
        · exact HC.out.hpg e.symm
        · exact HC.out.htg a e e2)
    tra := h2
    hp := HC.out.hp
    hg := HC.out.hg
    hpg := HC.out.hpg
    htp := fun a e => by
      rcases mv' a e with ⟨b, e1, e2⟩ | h
      · rw [← e2]; exact HC.out.htp b e1
      · have := hpl.2; omega
    htg := fun a e => by
      rcases mv' a e with ⟨b, e1, e2⟩ | h
      · rw [← e2]; exact HC.out.htg b e1
      · have := hgl.2; omega }

set_option maxRecDepth 100000 in
set_option maxHeartbeats 1000000 in
theorem do_yes (HC : Hid (Cel w B p g vcap tao tcap s)) (o : O) (n : Nat) (r : Rc) (HN : Hid (s.vs.length = n)) (hok : Hid (okO o n = true)) (HR : Hid (apR s.vs o = r)) (hsn : Hid (s.n ≤ 50000)) :
    Calls Try.prog 35 #[.pointer (some ⟨p, 0, none⟩), (.agg #[.int .i64 o.k, .int .i64 o.c, .int .i64 o.a, .int .i64 o.v, .int .i64 o.w])] w fun e w' => e = .returned (.tuple #[.int .i64 r.got, .bool r.ok, .int .i64 0]) ∧ ∃ tao' tcap', Cel w' B p g vcap tao' tcap' (s.step o) ∧ Kept (foot p g tao) w w' ∧ Moved w tao tao' := by
  go_enter Try.func35, Try.ntmps35
  go_wp2_with fail
  generalize hW : w.alloc (.cells #[.int .i64 o.k, .int .i64 o.c, .int .i64 o.a, .int .i64 o.v, .int .i64 o.w] 35) = W
  have HB : Hid (Below w.heap.size w W) := by rw [← hW]; exact alloc_below w _
  have HO : InO W w.heap.size o := by rw [← hW]; exact inO_new w o _
  have HIW := hid HO
  have HCW := (HC.out.below HB.out).cells
  rw [HN.out] at HCW
  obtain ⟨c0, c1, c2, c3, c4⟩ := HO.always
  obtain ⟨k0, -, -, -⟩ := HCW
  have d0 : ∀ x : Later W, x.now.cell? ⟨p, 0, none⟩ = some (.slice (some ⟨g, 0, none⟩) n vcap) := fun x => x.cell k0
  have hne : Nonempty (Later W) := ⟨⟨W, Below.refl _ _⟩⟩
  clear hW HO k0
  refine wp_region_later (by kernel_rfl) (by kernel_rfl) ?_
  repeat (go_big_quiet_step ((go_at_call 39; exact later_call (check_yes o n _ hok.out))))
  refine wpQuiet_nil ?_
  rintro w3 ⟨⟨_, b3⟩, rfl⟩
  have HB3 := hid (q_trans HB.out b3)
  have HO3 := hid (HIW.out.below b3)
  clear b3 c0 c1 c2 c3 c4 d0 hne HIW HB
  rename_i w3
  have HC3 := hid (HC.out.below HB3.out)
  have k0 := HC3.out.cells.1
  rw [HN.out] at k0
  obtain ⟨c0, c1, c2, c3, c4⟩ := HO3.out
  go_wp2_with fail
  obtain ⟨l', hl'⟩ : ∃ l', apV s.vs o = l' := ⟨_, rfl⟩
  have HL := hid hl'
  clear hl'
  have HV3 := hid HC3.out.val
  rw [HN.out] at HV3
  have HCH : Hid (∀ X, X.ownsRow B 2 1 (.slice (some ⟨g, 0, none⟩) n vcap) n (vals s.vs) → Calls Try.prog 40 #[.slice (some ⟨g, 0, none⟩) n vcap, (.agg #[.int .i64 o.k, .int .i64 o.c, .int .i64 o.a, .int .i64 o.v, .int .i64 o.w])] X fun e w' => e = .returned (.agg #[.int .i64 r.o.k, .int .i64 r.o.c, .int .i64 r.o.a, .int .i64 r.o.v, .int .i64 r.o.w, .int .i64 r.got, .bool r.ok]) ∧ w'.ownsRow B 2 1 (.slice (some ⟨g, 0, none⟩) n vcap) n (vals l') ∧ Kept (fun i => i = g) X w') := by
    intro X hX
    have h := change_any _ n vcap s.vs o X B HN.out.symm hok.out hX
    rw [HR.out, HL.out] at h
    refine h.mono ?_
    rintro e w' ⟨rfl, h1, h2⟩
    exact ⟨rfl, h1, h2.mono (fun i _ e => by cases e; rfl)⟩
  have hz : w.heap.size < w3.heap.size := HO3.out.lt
  have hp : p < w.heap.size := (HC.out.lt p (.inl rfl)).2
  have hg : g < w.heap.size := (HC.out.lt g (.inr (.inl rfl))).2
  have HPG := hid HC.out.hpg
  have HKS : Hid (∀ w4, Kept (fun i => i = g) w3 w4 → w4.cell? ⟨p, 0, none⟩ = some (.slice (some ⟨g, 0, none⟩) n vcap) ∧ w4.cell? ⟨w.heap.size, 0, none⟩ = some (.int .i64 o.k) ∧ w4.cell? ⟨w.heap.size, 1, none⟩ = some (.int .i64 o.c) ∧ w4.cell? ⟨w.heap.size, 2, none⟩ = some (.int .i64 o.a) ∧ w4.cell? ⟨w.heap.size, 3, none⟩ = some (.int .i64 o.v) ∧ w4.cell? ⟨w.heap.size, 4, none⟩ = some (.int .i64 o.w)) := by
    intro w4 k
    have m1 : ¬ (fun i => i = g) p := HPG.out
    have m2 : ¬ (fun i => i = g) w.heap.size := fun e => by omega
    exact ⟨k.cell k0 m1, k.cell c0 m2, k.cell c1 m2, k.cell c2 m2, k.cell c3 m2, k.cell c4 m2⟩
  have HRA : Hid (∀ w4, Kept (fun i => i = g) (w3.drew.alloc (.cells #[.int .i64 0, .int .i64 0, .int .i64 0, .int .i64 0, .int .i64 0, .int .i64 0, .bool false] 70)) w4 → InR w4 w3.heap.size Rc.zero) := by
    intro w4 k
    exact (inR_new w3.drew Rc.zero 70).kept k (fun e => by have : w3.heap.size = g := e; omega)
  have q1 : ¬ w3.heap.size = p := by omega
  have q2 : ¬ w3.heap.size = w.heap.size := by omega
  have q3 : ¬ p = w3.heap.size := by omega
  have q4 : ¬ w.heap.size = w3.heap.size := by omega
  have q5 : p < w3.heap.size := by omega
  go_region_held3 (fun w' => w'.cell? ⟨p, 0, none⟩ = some (.slice (some ⟨g, 0, none⟩) n vcap) ∧ w'.cell? ⟨w.heap.size, 0, none⟩ = some (.int .i64 o.k) ∧ w'.cell? ⟨w.heap.size, 1, none⟩ = some (.int .i64 o.c) ∧ w'.cell? ⟨w.heap.size, 2, none⟩ = some (.int .i64 o.a) ∧ w'.cell? ⟨w.heap.size, 3, none⟩ = some (.int .i64 o.v) ∧ w'.cell? ⟨w.heap.size, 4, none⟩ = some (.int .i64 o.w))
    (first | go_keep | (refine HKS.out _ ?_; first | exact k5 | exact k5.alloc _))
    ((go_at_call 40; refine (HCH.out _ (by first | exact HV3.out.drew | exact HV3.out.drew.alloc _)).mono ?_; rintro e w4 ⟨rfl, own4, k4⟩; have k5 : Kept (fun i => i = g) w3 w4 := (by first | exact kept_of_drew k4 | exact kept_of_alloc k4); have HO4 := hid own4; have HK4 := hid k4; clear own4; try (obtain ⟨r0, r1, r2, r3, r4, r5, r6, rf⟩ := HRA.out _ k4); clear k4))
  · generalize hX : w4.alloc (.cells #[.int .i64 r.o.k, .int .i64 r.o.c, .int .i64 r.o.a, .int .i64 r.o.v, .int .i64 r.o.w, .int .i64 r.got, .bool r.ok] 70) = X
    generalize hR : w4.heap.size = R
    have HX : Hid (Aft w3 X R g r B n vcap l') := by
      subst hX
      subst hR
      exact { inr := inR_new w4 r 70, low := k5.size, own := own_below HO4.out (alloc_below _ _), kept := k5.alloc _ }
    clear hX hR
    clear HKS HRA HCH k0 c0 c1 c2 c3 c4 HO4 HK4 k5 q1 q2 q3 q4 q5
    obtain ⟨r0, r1, r2, r3, r4, r5, r6, -⟩ := HX.out.inr
    go_wp2_with fail
    refine (note_any r p _ tao s.n tcap s.tr B X hsn.out (do_blk HN HC3 HX) (do_tra HC3 HX) HC3.out.htp HC3.out.hp _ rfl).mono ?_
    rintro e w5 ⟨rfl, tao', tcap', h1, h2, k6, mv⟩
    have HE := hid (do_end HC o n r HN hok HR w3 HB3 X R l' HL HX w5 tao' tcap' h1 h2 k6 mv)
    have HI5 := HX.out.inr.kept k6 (do_far HC3 HX)
    clear h1 h2 k6 mv r0 r1 r2 r3 r4 r5 r6
    obtain ⟨r0, r1, r2, r3, r4, r5, r6, -⟩ := HI5
    go_wp2_with fail
    go_quiet (fail)
    go_wp2_with fail
    exact bodyPost_ret (v := .tuple #[.int .i64 r.got, .bool r.ok, .int .i64 0]) (by simp [results, Try.results35, go_sem]) rfl ⟨rfl, tao', tcap', HE.out _⟩
  · generalize hX : ((((((w4.setCell ⟨w3.heap.size, 0, none⟩ (.int .i64 r.o.k)).setCell ⟨w3.heap.size, 1, none⟩ (.int .i64 r.o.c)).setCell ⟨w3.heap.size, 2, none⟩ (.int .i64 r.o.a)).setCell ⟨w3.heap.size, 3, none⟩ (.int .i64 r.o.v)).setCell ⟨w3.heap.size, 4, none⟩ (.int .i64 r.o.w)).setCell ⟨w3.heap.size, 5, none⟩ (.int .i64 r.got)).setCell ⟨w3.heap.size, 6, none⟩ (.bool r.ok) = X
    have hzg : g < w3.heap.size := by omega
    have HX : Hid (Aft w3 X w3.heap.size g r B n vcap l') := by
      subst hX
      have k7 := kept7 w4 w3.heap.size (.int .i64 r.o.k) (.int .i64 r.o.c) (.int .i64 r.o.a) (.int .i64 r.o.v) (.int .i64 r.o.w) (.int .i64 r.got) (.bool r.ok)
      exact { inr := inR_store (z := Rc.zero) ⟨r0, r1, r2, r3, r4, r5, r6, rf⟩, low := Nat.le_refl _, own := own_kept HO4.out k7 (fun i e => by cases e; show ¬ g = w3.heap.size; omega), kept := k5.trans k7 (fun i hi e => by omega) }
    generalize hR : w3.heap.size = R at HX
    clear hX hR r0 r1 r2 r3 r4 r5 r6 rf hzg
    clear HKS HRA HCH k0 c0 c1 c2 c3 c4 HO4 HK4 k5 q1 q2 q3 q4 q5
    obtain ⟨r0, r1, r2, r3, r4, r5, r6, -⟩ := HX.out.inr
    go_wp2_with fail
    refine (note_any r p _ tao s.n tcap s.tr B X hsn.out (do_blk HN HC3 HX) (do_tra HC3 HX) HC3.out.htp HC3.out.hp _ rfl).mono ?_
    rintro e w5 ⟨rfl, tao', tcap', h1, h2, k6, mv⟩
    have HE := hid (do_end HC o n r HN hok HR w3 HB3 X R l' HL HX w5 tao' tcap' h1 h2 k6 mv)
    have HI5 := HX.out.inr.kept k6 (do_far HC3 HX)
    clear h1 h2 k6 mv r0 r1 r2 r3 r4 r5 r6
    obtain ⟨r0, r1, r2, r3, r4, r5, r6, -⟩ := HI5
    go_wp2_with fail
    go_quiet (fail)
    go_wp2_with fail
    exact bodyPost_ret (v := .tuple #[.int .i64 r.got, .bool r.ok, .int .i64 0]) (by simp [results, Try.results35, go_sem]) rfl ⟨rfl, tao', tcap', HE.out _⟩
/-- A STEP, WHATEVER IT IS. -/
theorem do_any (HC : Cel w B p g vcap tao tcap s) (o : O) (hsn : s.n ≤ 50000) :
    Calls Try.prog 35 #[.pointer (some ⟨p, 0, none⟩), (.agg #[.int .i64 o.k, .int .i64 o.c, .int .i64 o.a, .int .i64 o.v, .int .i64 o.w])] w fun e w' => e = .returned (.tuple #[.int .i64 (apR s.vs o).got, .bool (apR s.vs o).ok, .int .i64 (chk o s.vs.length)]) ∧ ∃ tao' tcap', Cel w' B p g vcap tao' tcap' (s.step o) ∧ Kept (foot p g tao) w w' ∧ Moved w tao tao' := by
  cases hok : okO o s.vs.length with
  | true =>
    rw [chk_yes hok]
    exact do_yes HC o s.vs.length _ rfl hok rfl hsn
  | false =>
    rw [chk_no hok, apR_no hok, S.step_no hok]
    refine (do_no HC o s.vs.length rfl hok).mono ?_
    rintro e w' ⟨rfl, b⟩
    exact ⟨rfl, tao, tcap, HC.below b, kept_below b, fun a e => .inl ⟨a, e, rfl⟩⟩
end
end Go.Proofs.Ytaihabkacjbfjaa.Ce

/- A ghost of one's own: its box, and its three lists, all apart; append of one, at a step of a region. -/
import Derived.Test.YtcldnacpddebcaaGhOwn
import Derived.Test.YtcldnacpddebcaaPkA
import Derived.Deep.AppendLies
namespace Go.Proofs.Ytcldnacpddebcaa.Gh
open Go.RowKit
open Go.Proofs.Ytcldnacpddebcaa.Tr

def obk (h : Hd) : Option Nat := Value.ownBlock (.slice h.o h.n h.c)
theorem obk_some (g n c : Nat) : obk ⟨some ⟨g, 0, none⟩, n, c⟩ = some g := rfl
theorem obk_nil : obk ⟨none, 0, 0⟩ = none := rfl
structure Og (w : World) (B p : Nat) (y : Gv) (g : Gt) : Prop where
  box : InW w p y
  ks : MineP 27 w B y.k.o y.k.n y.k.c g.ks
  is : MineI w B y.i.o y.i.n y.i.c g.is
  fr : MineI w B y.f.o y.f.n y.f.c g.fr
  kp : obk y.k ≠ some p
  ip : obk y.i ≠ some p
  fp : obk y.f ≠ some p
  iF : ∀ k, obk y.i = some k → obk y.f ≠ some k
theorem Og.below {w w' : World} {B p : Nat} {y : Gv} {g : Gt} (h : Og w B p y g) (q : Below w.heap.size w w') : Og w' B p y g :=
  ⟨h.box.below q, h.ks.below q, h.is.below q, h.fr.below q, h.kp, h.ip, h.fp, h.iF⟩
theorem Og.has {w : World} {B p : Nat} {y : Gv} {g : Gt} (h : Og w B p y g) : HasG w y g := ⟨h.ks.has, h.is.has, h.fr.has⟩
theorem og_nil (w : World) (B : Nat) (t : TypeId) : Og (w.alloc (.cells #[.slice nilG.k.o nilG.k.n nilG.k.c, .slice nilG.i.o nilG.i.n nilG.i.c, .slice nilG.f.o nilG.f.n nilG.f.c] t)) B w.heap.size nilG g0 :=
  ⟨inW_new w nilG t, mineP_nil _ _ _, mineI_nil _ _, mineI_nil _ _, fun h => (by cases h), fun h => (by cases h), fun h => (by cases h), fun k h => (by cases h)⟩
theorem own_types {W : World} {B B' s s' n n' : Nat} {e e' : TypeId} {v v' : Value} {cs cs' : List Value} (h : W.ownsRow B e s v n cs) (h' : W.ownsRow B' e' s' v' n' cs') (ne : e ≠ e') {b : Nat} (hb : v.ownBlock = some b) : v'.ownBlock ≠ some b := by
  intro hb'
  rcases h.2 with ⟨rfl, _⟩ | ⟨g, cap, cur, rfl, _, hg, _⟩
  · simp [Value.ownBlock] at hb
  · rcases h'.2 with ⟨rfl, _⟩ | ⟨g', cap', cur', rfl, _, hg', _⟩
    · simp [Value.ownBlock] at hb'
    · simp [Value.ownBlock] at hb hb'
      subst hb hb'
      rw [hg] at hg'
      injection hg' with h1
      injection h1 with _ h2
      exact ne h2
theorem kne : (27 : TypeId) ≠ 3 := by decide
theorem Og.ki {w : World} {B p : Nat} {y : Gv} {g : Gt} (h : Og w B p y g) {k : Nat} (e : obk y.k = some k) : obk y.i ≠ some k := own_types h.ks.2 h.is.2 kne e
theorem Og.kf {w : World} {B p : Nat} {y : Gv} {g : Gt} (h : Og w B p y g) {k : Nat} (e : obk y.k = some k) : obk y.f ≠ some k := own_types h.ks.2 h.fr.2 kne e
/-- A row that lies elsewhere than what was written. -/
theorem row_stay {w w3 : World} {B n sz p j : Nat} {E : TypeId} {v : Value} {cs : List Value} {S : Nat → Prop} (h : w.ownsRow B E sz v n cs) (k : Kept S w w3) (u : Value) (h1 : ∀ i, v.ownBlock = some i → ¬ S i) (h2 : v.ownBlock ≠ some p) : (w3.setCell ⟨p, j, none⟩ u).ownsRow B E sz v n cs :=
  own_kept (own_kept h k h1) (kept_set (fun i => i = p) w3 ⟨p, j, none⟩ u rfl) (fun _ e s => h2 (s ▸ e))
theorem InW.kept {w w3 : World} {p : Nat} {y : Gv} {S : Nat → Prop} (h : InW w p y) (k : Kept S w w3) (h1 : ¬ S p) : InW w3 p y :=
  ⟨k.cell h.c0 h1, k.cell h.c1 h1, k.cell h.c2 h1, (World.frozen?_of_block (a := ⟨p, 0, none⟩) (k.block p h.lt h1)).trans h.f0, (World.frozen?_of_block (a := ⟨p, 1, none⟩) (k.block p h.lt h1)).trans h.f1, (World.frozen?_of_block (a := ⟨p, 2, none⟩) (k.block p h.lt h1)).trans h.f2⟩
theorem grow_kept {w W w3 : World} {ob : Option Nat} (b : Below w.heap.size w W) (grow : W.grownBy w3 ob) : Kept (fun i => some i = ob) w w3 := (kept_below b).trans (kept_grown grow) (fun _ _ e => e)
/-- Below B, where what is written lies from B on. -/
theorem kept_low {w w3 : World} {B p j : Nat} {S : Nat → Prop} (k : Kept S w w3) (hB : B ≤ w.heap.size) (hp : B ≤ p) (hs : ∀ i, S i → B ≤ i) (u : Value) : Below B w (w3.setCell ⟨p, j, none⟩ u) :=
  (k.below B hB hs).setCell hp u
theorem own_ge {w : World} {B n sz : Nat} {E : TypeId} {v : Value} {cs : List Value} (h : w.ownsRow B E sz v n cs) {i : Nat} (e : v.ownBlock = some i) : B ≤ i := (World.ownsRow.lt h i e).1
/-- The new list of keys is stored. -/
theorem Og.putK {w w3 : World} {B p gb n cap : Nat} {y : Gv} {g : Gt} {l : List P} {S : Nat → Prop} (h : Og w B p y g) (hB : B ≤ w.heap.size) (hp : B ≤ p) (k : Kept S w w3) (hS : ∀ i, S i → i < w.heap.size → obk y.k = some i) (hS2 : ∀ i, S i → B ≤ i) (own : w3.ownsRow B 27 2 (.slice (some ⟨gb, 0, none⟩) n cap) n (prs l)) (hl : n = l.length) (hat : obk y.k = some gb ∨ w.heap.size ≤ gb) :
    Og (w3.setCell ⟨p, 0, none⟩ (.slice (some ⟨gb, 0, none⟩) n cap)) B p ⟨⟨some ⟨gb, 0, none⟩, n, cap⟩, y.i, y.f⟩ ⟨l, g.is, g.fr⟩ ∧ Below B w (w3.setCell ⟨p, 0, none⟩ (.slice (some ⟨gb, 0, none⟩) n cap)) := by
  have hpl := h.box.lt
  have hgp : gb ≠ p := by
    rintro rfl
    rcases hat with e | e
    · exact h.kp e
    · omega
  have li : ∀ i, obk y.i = some i → i < w.heap.size := fun i e => (World.ownsRow.lt h.is.2 i e).2
  have lf : ∀ i, obk y.f = some i → i < w.heap.size := fun i e => (World.ownsRow.lt h.fr.2 i e).2
  refine ⟨⟨(h.box.kept k (fun s => h.kp (hS p s hpl))).setK ⟨some ⟨gb, 0, none⟩, n, cap⟩, ⟨hl, own_kept own (kept_set (fun i => i = p) w3 ⟨p, 0, none⟩ _ rfl) (fun i e s => hgp (by cases e; exact s))⟩, ⟨h.is.1, row_stay h.is.2 k _ (fun i e s => h.ki (hS i s (li i e)) e) h.ip⟩, ⟨h.fr.1, row_stay h.fr.2 k _ (fun i e s => h.kf (hS i s (lf i e)) e) h.fp⟩, fun e => hgp (by cases e; rfl), h.ip, h.fp, h.iF⟩, kept_low k hB hp hS2 _⟩
theorem Og.putI {w w3 : World} {B p gb n cap : Nat} {y : Gv} {g : Gt} {l : List Int} {S : Nat → Prop} (h : Og w B p y g) (hB : B ≤ w.heap.size) (hp : B ≤ p) (k : Kept S w w3) (hS : ∀ i, S i → i < w.heap.size → obk y.i = some i) (hS2 : ∀ i, S i → B ≤ i) (own : w3.ownsRow B 3 1 (.slice (some ⟨gb, 0, none⟩) n cap) n (vals l)) (hl : n = l.length) (hat : obk y.i = some gb ∨ w.heap.size ≤ gb) :
    Og (w3.setCell ⟨p, 1, none⟩ (.slice (some ⟨gb, 0, none⟩) n cap)) B p ⟨y.k, ⟨some ⟨gb, 0, none⟩, n, cap⟩, y.f⟩ ⟨g.ks, l, g.fr⟩ ∧ Below B w (w3.setCell ⟨p, 1, none⟩ (.slice (some ⟨gb, 0, none⟩) n cap)) := by
  have hpl := h.box.lt
  have hgp : gb ≠ p := by
    rintro rfl
    rcases hat with e | e
    · exact h.ip e
    · omega
  have lk : ∀ i, obk y.k = some i → i < w.heap.size := fun i e => (World.ownsRow.lt h.ks.2 i e).2
  have lf : ∀ i, obk y.f = some i → i < w.heap.size := fun i e => (World.ownsRow.lt h.fr.2 i e).2
  refine ⟨⟨(h.box.kept k (fun s => h.ip (hS p s hpl))).setI ⟨some ⟨gb, 0, none⟩, n, cap⟩, ⟨h.ks.1, row_stay h.ks.2 k _ (fun i e s => h.ki e (hS i s (lk i e))) h.kp⟩, ⟨hl, own_kept own (kept_set (fun i => i = p) w3 ⟨p, 1, none⟩ _ rfl) (fun i e s => hgp (by cases e; exact s))⟩, ⟨h.fr.1, row_stay h.fr.2 k _ (fun i e s => h.iF i (hS i s (lf i e)) e) h.fp⟩, h.kp, fun e => hgp (by cases e; rfl), h.fp, fun i e f => ?_⟩, kept_low k hB hp hS2 _⟩
  cases e
  rcases hat with e | e
  · exact h.iF _ e f
  · have h9 : gb < w.heap.size := lf _ f
    omega
theorem Og.putF {w w3 : World} {B p gb n cap : Nat} {y : Gv} {g : Gt} {l : List Int} {S : Nat → Prop} (h : Og w B p y g) (hB : B ≤ w.heap.size) (hp : B ≤ p) (k : Kept S w w3) (hS : ∀ i, S i → i < w.heap.size → obk y.f = some i) (hS2 : ∀ i, S i → B ≤ i) (own : w3.ownsRow B 3 1 (.slice (some ⟨gb, 0, none⟩) n cap) n (vals l)) (hl : n = l.length) (hat : obk y.f = some gb ∨ w.heap.size ≤ gb) :
    Og (w3.setCell ⟨p, 2, none⟩ (.slice (some ⟨gb, 0, none⟩) n cap)) B p ⟨y.k, y.i, ⟨some ⟨gb, 0, none⟩, n, cap⟩⟩ ⟨g.ks, g.is, l⟩ ∧ Below B w (w3.setCell ⟨p, 2, none⟩ (.slice (some ⟨gb, 0, none⟩) n cap)) := by
  have hpl := h.box.lt
  have hgp : gb ≠ p := by
    rintro rfl
    rcases hat with e | e
    · exact h.fp e
    · omega
  have lk : ∀ i, obk y.k = some i → i < w.heap.size := fun i e => (World.ownsRow.lt h.ks.2 i e).2
  have li : ∀ i, obk y.i = some i → i < w.heap.size := fun i e => (World.ownsRow.lt h.is.2 i e).2
  refine ⟨⟨(h.box.kept k (fun s => h.fp (hS p s hpl))).setF ⟨some ⟨gb, 0, none⟩, n, cap⟩, ⟨h.ks.1, row_stay h.ks.2 k _ (fun i e s => h.kf e (hS i s (lk i e))) h.kp⟩, ⟨h.is.1, row_stay h.is.2 k _ (fun i e s => h.iF i e (hS i s (li i e))) h.ip⟩, ⟨hl, own_kept own (kept_set (fun i => i = p) w3 ⟨p, 2, none⟩ _ rfl) (fun i e s => hgp (by cases e; exact s))⟩, h.kp, h.ip, fun e => hgp (by cases e; rfl), fun i e f => ?_⟩, kept_low k hB hp hS2 _⟩
  cases f
  rcases hat with f | f
  · exact h.iF _ e f
  · have h9 : gb < w.heap.size := li _ e
    omega
theorem Og.addK {w W w3 : World} {B p gb n cap : Nat} {y : Gv} {g : Gt} {l : List P} (h : Og w B p y g) (hB : B ≤ w.heap.size) (hp : B ≤ p) (b : Below w.heap.size w W) (grow : W.grownBy w3 (obk y.k)) (own : w3.ownsRow B 27 2 (.slice (some ⟨gb, 0, none⟩) n cap) n (prs l)) (hl : n = l.length) (hat : obk y.k = some gb ∨ gb = W.heap.size) :
    Og (w3.setCell ⟨p, 0, none⟩ (.slice (some ⟨gb, 0, none⟩) n cap)) B p ⟨⟨some ⟨gb, 0, none⟩, n, cap⟩, y.i, y.f⟩ ⟨l, g.is, g.fr⟩ ∧ Below B w (w3.setCell ⟨p, 0, none⟩ (.slice (some ⟨gb, 0, none⟩) n cap)) :=
  h.putK hB hp (grow_kept b grow) (fun _ s _ => s.symm) (fun _ s => own_ge h.ks.2 s.symm) own hl (hat.elim .inl (fun e => .inr (by rw [e]; exact b.size)))
theorem Og.addI {w W w3 : World} {B p gb n cap : Nat} {y : Gv} {g : Gt} {l : List Int} (h : Og w B p y g) (hB : B ≤ w.heap.size) (hp : B ≤ p) (b : Below w.heap.size w W) (grow : W.grownBy w3 (obk y.i)) (own : w3.ownsRow B 3 1 (.slice (some ⟨gb, 0, none⟩) n cap) n (vals l)) (hl : n = l.length) (hat : obk y.i = some gb ∨ gb = W.heap.size) :
    Og (w3.setCell ⟨p, 1, none⟩ (.slice (some ⟨gb, 0, none⟩) n cap)) B p ⟨y.k, ⟨some ⟨gb, 0, none⟩, n, cap⟩, y.f⟩ ⟨g.ks, l, g.fr⟩ ∧ Below B w (w3.setCell ⟨p, 1, none⟩ (.slice (some ⟨gb, 0, none⟩) n cap)) :=
  h.putI hB hp (grow_kept b grow) (fun _ s _ => s.symm) (fun _ s => own_ge h.is.2 s.symm) own hl (hat.elim .inl (fun e => .inr (by rw [e]; exact b.size)))
theorem Og.addF {w W w3 : World} {B p gb n cap : Nat} {y : Gv} {g : Gt} {l : List Int} (h : Og w B p y g) (hB : B ≤ w.heap.size) (hp : B ≤ p) (b : Below w.heap.size w W) (grow : W.grownBy w3 (obk y.f)) (own : w3.ownsRow B 3 1 (.slice (some ⟨gb, 0, none⟩) n cap) n (vals l)) (hl : n = l.length) (hat : obk y.f = some gb ∨ gb = W.heap.size) :
    Og (w3.setCell ⟨p, 2, none⟩ (.slice (some ⟨gb, 0, none⟩) n cap)) B p ⟨y.k, y.i, ⟨some ⟨gb, 0, none⟩, n, cap⟩⟩ ⟨g.ks, g.is, l⟩ ∧ Below B w (w3.setCell ⟨p, 2, none⟩ (.slice (some ⟨gb, 0, none⟩) n cap)) :=
  h.putF hB hp (grow_kept b grow) (fun _ s _ => s.symm) (fun _ s => own_ge h.fr.2 s.symm) own hl (hat.elim .inl (fun e => .inr (by rw [e]; exact b.size)))
/-- append OF ONE KEY, at a step of a region. -/
theorem step_key (w : World) {ops : Array Oper} {o : Oper} {a : Act} {C : Act → World → Prop} {Q : Exit → Act → World → Prop} {E : Prop} (hgd : o.guard = none) (s x : Operand)
    (ho : o.op = .call { callee := .builtin .append, args := #[s, x], argTypes := #[22, 22] })
    (base : Nat) (v : Value) (n : Nat) (xs : List P) (hs : a.eval s = v) (hown : w.ownsRow base 27 2 v n (prs xs))
    (ad : Addr) (k : P) (hx : a.eval x = .slice (some ad) 1 1) (hy : Row w (some ad) (prs [k])) (h63 : n ≤ 5000) (hbase : base ≤ w.heap.size)
    (h : ∀ g cap w', w'.ownsRow base 27 2 (.slice (some ⟨g, 0, none⟩) (n + 1) cap) (n + 1) (prs (xs ++ [k])) → w.grownBy w' v.ownBlock → (v.ownBlock = some g ∨ g = w.heap.size) → C (a.put o.dst (.slice (some ⟨g, 0, none⟩) (n + 1) cap)) w') :
    if Region.wanted o (yielded ops a.tmps) = true then Oper.wp Try.prog o a w C Q else E := by
  obtain ⟨i0, hi, hz0, hz1, hz2⟩ := info_of infoK
  rw [prs_app] at h
  refine step_append_lies w hgd s x 22 ho base 27 i0 _ 2 16 Try.underlying22 hi hz0 hz1 hz2 rfl (by decide) v n (prs xs) hs hown ad 1 1 (prs [k]) hx rfl ?_ (prs_one _) (by decide) (by unfold maxLen; omega) (by omega) hbase _ rfl (fun g cap w' h1 h2 h3 _ => h g cap w' h1 h2 h3)
  intro j u hu
  obtain ⟨a', e, hcell⟩ := hy.cell j u hu
  cases e
  exact hcell
/-- append OF ONE NUMBER, at a step of a region. -/
theorem step_int (w : World) {ops : Array Oper} {o : Oper} {a : Act} {C : Act → World → Prop} {Q : Exit → Act → World → Prop} {E : Prop} (hgd : o.guard = none) (s x : Operand)
    (ho : o.op = .call { callee := .builtin .append, args := #[s, x], argTypes := #[23, 23] })
    (base : Nat) (v : Value) (n : Nat) (xs : List Int) (hs : a.eval s = v) (hown : w.ownsRow base 3 1 v n (vals xs))
    (ad : Addr) (k : Int) (hx : a.eval x = .slice (some ad) 1 1) (hy : Row w (some ad) (vals [k])) (h63 : n ≤ 5000) (hbase : base ≤ w.heap.size)
    (h : ∀ g cap w', w'.ownsRow base 3 1 (.slice (some ⟨g, 0, none⟩) (n + 1) cap) (n + 1) (vals (xs ++ [k])) → w.grownBy w' v.ownBlock → (v.ownBlock = some g ∨ g = w.heap.size) → C (a.put o.dst (.slice (some ⟨g, 0, none⟩) (n + 1) cap)) w') :
    if Region.wanted o (yielded ops a.tmps) = true then Oper.wp Try.prog o a w C Q else E := by
  obtain ⟨i0, hi, hz0, hz1, hz2⟩ := info_of infoN
  rw [vals_app] at h
  refine step_append_lies w hgd s x 23 ho base 3 i0 _ 1 8 Try.underlying23 hi hz0 hz1 hz2 rfl (by decide) v n (vals xs) hs hown ad 1 1 (vals [k]) hx rfl ?_ (vals_one _) (by decide) (by unfold maxLen; omega) (by omega) hbase _ rfl (fun g cap w' h1 h2 h3 _ => h g cap w' h1 h2 h3)
  intro j u hu
  obtain ⟨a', e, hcell⟩ := hy.cell j u hu
  cases e
  exact hcell
/-- The same in a plain region. -/
theorem list_int (w : World) {ops : Array Oper} {rest : List Oper} {o : Oper} {a : Act} {Q : Exit → Act → World → Prop} (hgd : o.guard = none) (s x : Operand)
    (ho : o.op = .call { callee := .builtin .append, args := #[s, x], argTypes := #[23, 23] })
    (base : Nat) (v : Value) (n : Nat) (xs : List Int) (hs : a.eval s = v) (hown : w.ownsRow base 3 1 v n (vals xs))
    (ad : Addr) (k : Int) (hx : a.eval x = .slice (some ad) 1 1) (hy : Row w (some ad) (vals [k])) (h63 : n ≤ 5000) (hbase : base ≤ w.heap.size)
    (h : ∀ g cap w', w'.ownsRow base 3 1 (.slice (some ⟨g, 0, none⟩) (n + 1) cap) (n + 1) (vals (xs ++ [k])) → w.grownBy w' v.ownBlock → (v.ownBlock = some g ∨ g = w.heap.size) → wpList Try.prog ops Q rest (a.put o.dst (.slice (some ⟨g, 0, none⟩) (n + 1) cap)) w') : wpList Try.prog ops Q (o :: rest) a w := by
  obtain ⟨i0, hi, hz0, hz1, hz2⟩ := info_of infoN
  rw [vals_app] at h
  refine wpList_append_lies w hgd s x 23 ho base 3 i0 _ 1 8 Try.underlying23 hi hz0 hz1 hz2 rfl (by decide) v n (vals xs) hs hown ad 1 1 (vals [k]) hx rfl ?_ (vals_one _) (by decide) (by unfold maxLen; omega) (by omega) hbase _ rfl (fun g cap w' h1 h2 h3 _ => h g cap w' h1 h2 h3)
  intro j u hu
  obtain ⟨a', e, hcell⟩ := hy.cell j u hu
  cases e
  exact hcell
end Go.Proofs.Ytcldnacpddebcaa.Gh

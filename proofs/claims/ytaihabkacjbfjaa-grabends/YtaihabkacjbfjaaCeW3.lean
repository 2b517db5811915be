/- What change does. -/
import Derived.Test.YtaihabkacjbfjaaCeW2
namespace Go.Proofs.Ytaihabkacjbfjaa.Ce
open Go.RowKit

/-- A step's five numbers lie in the block b. -/
structure InO (w : World) (b : Nat) (o : O) : Prop where
  c0 : w.cell? ⟨b, 0, none⟩ = some (.int .i64 o.k)
  c1 : w.cell? ⟨b, 1, none⟩ = some (.int .i64 o.c)
  c2 : w.cell? ⟨b, 2, none⟩ = some (.int .i64 o.a)
  c3 : w.cell? ⟨b, 3, none⟩ = some (.int .i64 o.v)
  c4 : w.cell? ⟨b, 4, none⟩ = some (.int .i64 o.w)
theorem inO_new (w : World) (o : O) (T : TypeId) : InO (w.alloc (.cells #[.int .i64 o.k, .int .i64 o.c, .int .i64 o.a, .int .i64 o.v, .int .i64 o.w] T)) w.heap.size o := by constructor <;> simp
theorem InO.kept {S : Nat → Prop} {w w' : World} {b : Nat} {o : O} (h : InO w b o) (k : Kept S w w') (hs : ¬ S b) : InO w' b o :=
  ⟨k.cell h.c0 hs, k.cell h.c1 hs, k.cell h.c2 hs, k.cell h.c3 hs, k.cell h.c4 hs⟩
theorem InO.below {w w' : World} {b : Nat} {o : O} (h : InO w b o) (hb : Below w.heap.size w w') : InO w' b o := h.kept (S := fun _ => False) (kept_below hb) (fun e => e)
theorem InO.lt {w : World} {b : Nat} {o : O} (h : InO w b o) : b < w.heap.size := World.block_lt_of_cell? w ⟨b, 0, none⟩ h.c0
/-- A record lies in the block b, and may be written. -/
structure InR (w : World) (b : Nat) (r : Rc) : Prop where
  c0 : w.cell? ⟨b, 0, none⟩ = some (.int .i64 r.o.k)
  c1 : w.cell? ⟨b, 1, none⟩ = some (.int .i64 r.o.c)
  c2 : w.cell? ⟨b, 2, none⟩ = some (.int .i64 r.o.a)
  c3 : w.cell? ⟨b, 3, none⟩ = some (.int .i64 r.o.v)
  c4 : w.cell? ⟨b, 4, none⟩ = some (.int .i64 r.o.w)
  c5 : w.cell? ⟨b, 5, none⟩ = some (.int .i64 r.got)
  c6 : w.cell? ⟨b, 6, none⟩ = some (.bool r.ok)
  f : ∀ i, w.frozen? ⟨b, i, none⟩ = false
theorem inR_new (w : World) (r : Rc) (T : TypeId) : InR (w.alloc (.cells #[.int .i64 r.o.k, .int .i64 r.o.c, .int .i64 r.o.a, .int .i64 r.o.v, .int .i64 r.o.w, .int .i64 r.got, .bool r.ok] T)) w.heap.size r := by constructor <;> simp
theorem InR.lt {w : World} {b : Nat} {r : Rc} (h : InR w b r) : b < w.heap.size := World.block_lt_of_cell? w ⟨b, 0, none⟩ h.c0
theorem InR.kept {S : Nat → Prop} {w w' : World} {b : Nat} {r : Rc} (h : InR w b r) (k : Kept S w w') (hs : ¬ S b) : InR w' b r :=
  ⟨k.cell h.c0 hs, k.cell h.c1 hs, k.cell h.c2 hs, k.cell h.c3 hs, k.cell h.c4 hs, k.cell h.c5 hs, k.cell h.c6 hs, fun i => (World.frozen?_of_block (a := ⟨b, i, none⟩) (k.block b h.lt hs)).trans (h.f i)⟩
theorem InR.below {w w' : World} {b : Nat} {r : Rc} (h : InR w b r) (hb : Below w.heap.size w w') : InR w' b r := h.kept (S := fun _ => False) (kept_below hb) (fun e => e)

set_option maxRecDepth 100000 in
set_option maxHeartbeats 1000000 in
theorem change_in (g n cap j : Nat) (k a v ww got : Int) (w : World) (hlt : j < n) (hg : g < w.heap.size)
    (HK : Hid (1 ≤ k ∧ k ≤ 5)) (hc : w.cell? ⟨g, j, none⟩ = some (.int .i64 got)) (hf : w.frozen? ⟨g, j, none⟩ = false) :
    Calls Try.prog 40 #[.slice (some ⟨g, 0, none⟩) n cap, .agg #[.int .i64 k, .int .i64 j, .int .i64 a, .int .i64 v, .int .i64 ww]] w fun e w' =>
      e = .returned (.agg #[.int .i64 k, .int .i64 j, .int .i64 a, .int .i64 v, .int .i64 ww, .int .i64 got, .bool (stB got ⟨k, j, a, v, ww⟩)]) ∧
      ∃ w1, Below w.heap.size w w1 ∧ Kept (fun i => w.heap.size ≤ i) (w1.setCell ⟨g, j, none⟩ (.int .i64 (stV got ⟨k, j, a, v, ww⟩))) w' := by
  have i1 : (0 : Int) ≤ (j : Int) := by omega
  have i2 : (j : Int) < (n : Int) := by omega
  have n1 : ¬ g = w.heap.size := by omega
  have n2 : ¬ g = w.heap.size + 1 := by omega
  have n3 : ¬ w.heap.size = g := by omega
  have n4 : ¬ w.heap.size + 1 = g := by omega
  have HI : Hid (InO ((w.alloc (.cells #[.int .i64 k, .int .i64 j, .int .i64 a, .int .i64 v, .int .i64 ww] 35)).alloc (.cells #[.int .i64 0, .int .i64 0, .int .i64 0, .int .i64 0, .int .i64 0, .int .i64 0, .bool false] 70)) w.heap.size ⟨k, j, a, v, ww⟩) := (inO_new w ⟨k, j, a, v, ww⟩ 35).below (alloc_below _ _)
  have HR : Hid (InR ((w.alloc (.cells #[.int .i64 k, .int .i64 j, .int .i64 a, .int .i64 v, .int .i64 ww] 35)).alloc (.cells #[.int .i64 0, .int .i64 0, .int .i64 0, .int .i64 0, .int .i64 0, .int .i64 0, .bool false] 70)) (w.heap.size + 1) Rc.zero) := by
    have h := inR_new (w.alloc (.cells #[.int .i64 k, .int .i64 j, .int .i64 a, .int .i64 v, .int .i64 ww] 35)) Rc.zero 70
    rw [show (w.alloc (.cells #[.int .i64 k, .int .i64 j, .int .i64 a, .int .i64 v, .int .i64 ww] 35)).heap.size = w.heap.size + 1 by simp] at h
    exact h
  have HC : Hid (w.cell? ⟨g, j, none⟩ = some (.int .i64 got)) := hc
  have HF : Hid (w.frozen? ⟨g, j, none⟩ = false) := hf
  have HG : Hid (g < w.heap.size) := hg
  go_enter Try.func40, Try.ntmps40
  go_wp2_with fail
  refine (step_any got ⟨k, j, a, v, ww⟩ _ HK).mono ?_
  rintro e w1 ⟨rfl, b1⟩
  have HB : Hid (Below w.heap.size w w1) := q_trans (q_alloc (alloc_below w _) _) b1
  obtain ⟨c0, c1, c2, c3, c4⟩ := HI.out.below b1
  obtain ⟨r0, r1, r2, r3, r4, r5, r6, rf⟩ := HR.out.below b1
  have gc : w1.cell? ⟨g, j, none⟩ = some (.int .i64 got) := (HB.out.cell HG.out).trans HC.out
  have gf : w1.frozen? ⟨g, j, none⟩ = false := (HB.out.frozen HG.out).trans HF.out
  clear b1 hc hf hg
  go_wp2_with fail
  refine bodyPost_ret (v := .agg #[.int .i64 k, .int .i64 j, .int .i64 a, .int .i64 v, .int .i64 ww, .int .i64 got, .bool (stB got ⟨k, j, a, v, ww⟩)]) (by simp [results, Try.results40, go_sem, r0, r1, r2, r3, r4, r5, r6]) rfl ⟨rfl, w1, HB.out, ?_⟩
  iterate 7 refine Kept.setCell ?_ _ _ (fun _ => by simp)
  exact Kept.refl _ _

/-- A STEP ON A ROW OF ONE's OWN. -/
theorem change_any (ao : Option Addr) (n cap : Nat) (l : List Int) (o : O) (w : World) (B : Nat) (hn : n = l.length) (hok : okO o n = true) (hown : w.ownsRow B 2 1 (.slice ao n cap) n (vals l)) :
    Calls Try.prog 40 #[.slice ao n cap, (.agg #[.int .i64 o.k, .int .i64 o.c, .int .i64 o.a, .int .i64 o.v, .int .i64 o.w])] w fun e w' => e = .returned (.agg #[.int .i64 (apR l o).o.k, .int .i64 (apR l o).o.c, .int .i64 (apR l o).o.a, .int .i64 (apR l o).o.v, .int .i64 (apR l o).o.w, .int .i64 (apR l o).got, .bool (apR l o).ok]) ∧ w'.ownsRow B 2 1 (.slice ao n cap) n (vals (apV l o)) ∧ Kept (fun i => (Value.slice ao n cap).ownBlock = some i) w w' := by
  have hk := okO_iff.1 hok
  have hok' : okO o l.length = true := hn ▸ hok
  rw [apR_yes hok', apV_yes hok']
  obtain ⟨k, c, a, v, ww⟩ := o
  obtain ⟨j, rfl⟩ := Int.eq_ofNat_of_zero_le hk.2.1
  have hj : j < n := by have := hk.2.2; dsimp only at this; omega
  have hown' := hown
  rcases hown.2 with ⟨e, h0⟩ | ⟨g, cap', cur, e, hb, hg, h1, h2, h3, h4⟩
  · omega
  · cases e
    have hlt : g < w.heap.size := (Array.getElem?_eq_some_iff.1 hg).1
    have hcell : w.cell? ⟨g, j, none⟩ = some (.int .i64 (l.getD j 0)) := by
      obtain ⟨a', e, hc⟩ := (own_row hown).1.cell j _ (vals_at l j (by omega))
      cases e
      have hadd : (⟨g, 0, none⟩ : Addr).add j = ⟨g, j, none⟩ := by unfold Addr.add; split <;> simp_all
      rwa [hadd] at hc
    refine (change_in g n cap j k a v ww (l.getD j 0) w hj hlt ⟨hk.1.1, hk.1.2.1⟩ hcell (own_frozen hown)).mono ?_
    rintro e w' ⟨rfl, w1, b1, k1⟩
    refine ⟨rfl, ?_, ?_⟩
    · have o1 := own_set (j := j) (.int .i64 (stV (l.getD j 0) ⟨k, j, a, v, ww⟩)) (own_below hown' b1)
      have o2 := own_kept o1 k1 (fun i e => by cases e; show ¬ w.heap.size ≤ g; omega)
      simpa [vals, List.map_set, at0] using o2
    · have k0 : Kept (fun i => (Value.slice (some ⟨g, 0, none⟩) n cap).ownBlock = some i) w (w1.setCell ⟨g, j, none⟩ (.int .i64 (stV (l.getD j 0) ⟨k, j, a, v, ww⟩))) := (kept_below b1).setCell _ _ (fun _ => rfl)
      exact k0.trans k1 (fun i hi e => by omega)
end Go.Proofs.Ytaihabkacjbfjaa.Ce

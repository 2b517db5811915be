/- What EpochOne does, over the program's contracts. -/
import Derived.Test.YtejghoncihdfkaaEpSteps
namespace Go.Proofs.Ytejghoncihdfkaa.Ep
open Go.RowKit

/-- What comes of one core that is pinned. -/
structure OneF (n c : Int) (A0 A1 A2 A4 A5 A6 : E) : Prop where
  new : (newA n).now = 1 ∧ newE n = 0 ∧ newA n = A0
  pin : A0.now = 1 ∧ pinE A0 c = 0 ∧ pinA A0 c = A1
  there : A1.now = 1 ∧ pinE A1 c = 8 ∧ pinA A1 c = A1
  ad : A1.now = 1 ∧ (adA A1).now = 2 ∧ adB A1 = true ∧ adA A1 = A2
  stuck : A2.now = 2 ∧ (adA A2).now = 2 ∧ adB A2 = false ∧ adA A2 = A2
  un : A2.now = 2 ∧ unE A2 c = 0 ∧ unA A2 c = A4
  none : A4.now = 2 ∧ unE A4 c = 7 ∧ unA A4 c = A4
  again : A4.now = 2 ∧ pinE A4 c = 0 ∧ pinA A4 c = A5
  last : A5.now = 2 ∧ (adA A5).now = 3 ∧ adB A5 = true ∧ adA A5 = A6
  end_ : A6.now = 3
  s0 : Sm A0
  s1 : Sm A1
  s2 : Sm A2
  s4 : Sm A4
  s5 : Sm A5
theorem one_facts {n c : Int} (h1 : 1 ≤ n) (h2 : n ≤ 64) (h3 : 0 ≤ c) (h4 : c < n) : ∃ A0 A1 A2 A4 A5 A6, OneF n c A0 A1 A2 A4 A5 A6 := by
  obtain ⟨k, rfl⟩ : ∃ k : Nat, c = (k : Int) := ⟨c.toNat, by omega⟩
  have hk : k < n.toNat := by omega
  have hn : newE n = 0 := if_pos ⟨h1, h2⟩
  have w0 : (newA n).now = 1 := by rw [show newA n = ⟨1, List.replicate n.toNat 0, List.replicate n.toNat []⟩ from if_pos ⟨h1, h2⟩]
  have o0 := on_start k hn
  obtain ⟨p0, o1, w1⟩ := on_pin o0 hk
  rw [w0] at o1 w1
  have t1 := on_there o1 hk (by decide)
  have u1 : pinA (pinA (newA n) k) k = pinA (newA n) k := by rw [pinA, if_neg (by rw [t1]; decide)]
  obtain ⟨a1, o2, w2⟩ := on_ad o1 (by rw [w1]; decide) (.inr (by rw [w1]))
  rw [w1] at w2
  obtain ⟨a2, e2⟩ := on_stuck o2 hk (by decide) (by rw [w2]; decide)
  obtain ⟨p3, o3, w3⟩ := on_un o2 hk (by decide)
  rw [w2] at w3
  have t3 := on_none o3 hk
  have u3 : unA (unA (adA (pinA (newA n) k)) k) k = unA (adA (pinA (newA n) k)) k := by rw [unA, if_neg (by rw [t3]; decide)]
  obtain ⟨p4, o4, w4⟩ := on_pin o3 hk
  rw [w3] at o4 w4
  obtain ⟨a5, o5, w5⟩ := on_ad o4 (by rw [w4]; decide) (.inr (by rw [w4]))
  rw [w4] at w5
  exact ⟨_, _, _, _, _, _, ⟨w0, hn, rfl⟩, ⟨w0, p0, rfl⟩, ⟨w1, t1, u1⟩, ⟨w1, w2, a1, rfl⟩, ⟨w2, by rw [e2]; exact w2, a2, e2⟩, ⟨w2, p3, rfl⟩, ⟨w3, t3, u3⟩, ⟨w3, p4, rfl⟩, ⟨w4, w5, a5, rfl⟩, w5, sm_ok o0.ok, sm_ok o1.ok, sm_ok o2.ok, sm_ok o3.ok, sm_ok o4.ok⟩
theorem be_at {w : World} {Av : Nat → Prop} {y : WE} {e : E} {n : Int} (h : e.now = n) (T : TypeId) (hh : HasE w Av y e) : Be (w.alloc (.cells #[.int .i64 n, .slice y.p.o y.p.n y.p.c, .slice y.l.o y.l.n y.l.c] T)) Av w.heap.size y e := by subst h; exact be_new T hh
theorem put_at {w : World} {Av : Nat → Prop} {b : Nat} {y z : WE} {e f : E} {n : Int} (hn : f.now = n) (h : Be w Av b y e) (hz : HasE w (fun i => Av i ∨ i = b) z f) : Be (((w.setCell ⟨b, 0, none⟩ (.int .i64 n)).setCell ⟨b, 1, none⟩ (.slice z.p.o z.p.n z.p.c)).setCell ⟨b, 2, none⟩ (.slice z.l.o z.l.n z.l.c)) Av b z f := by subst hn; exact h.put hz
end Go.Proofs.Ytejghoncihdfkaa.Ep

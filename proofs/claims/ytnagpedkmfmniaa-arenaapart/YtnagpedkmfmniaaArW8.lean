/- What apart does. -/
import Derived.Test.YtnagpedkmfmniaaArW7
import Derived.Test.YtnagpedkmfmniaaArW6
import Derived.Deep.Cut
import Derived.Deep.CutRange
import Derived.Deep.RegionWith
import Derived.Deep.RegionHeld3
import Derived.BigRegion
namespace Go.Proofs.Ytnagpedkmfmniaa.Ar
open Go.RowKit Go.Proofs.Ytnagpedkmfmniaa.Ha

def Wh.zero : Wh := ⟨⟨none, 0, 0⟩, ⟨none, 0, 0⟩⟩
/-- Behind the door of a function that is handed an arena and answers one: its box, and the answer's. -/
structure Do (w W : World) (x : Wh) : Prop where
  low : Below w.heap.size w W
  box : InA W w.heap.size x
  res : InA W (w.heap.size + 1) Wh.zero
theorem Do.below {w W W' : World} {x : Wh} (h : Do w W x) (b : Below W.heap.size W W') : Do w W' x := ⟨q_trans h.low b, h.box.below b, h.res.below b⟩
theorem do_new (w : World) (x : Wh) : Do w ((w.alloc (.cells #[.slice x.t.o x.t.n x.t.c, .slice x.f.o x.f.n x.f.c] 25)).alloc (.cells #[.slice none 0 0, .slice none 0 0] 25)) x := by
  refine ⟨q_alloc (alloc_below w _) _, (inA_new w x _).below (alloc_below _ _), ?_⟩
  have h := inA_new (w.alloc (.cells #[.slice x.t.o x.t.n x.t.c, .slice x.f.o x.f.n x.f.c] 25)) Wh.zero 25
  rwa [show (w.alloc (.cells #[.slice x.t.o x.t.n x.t.c, .slice x.f.o x.f.n x.f.c] 25)).heap.size = w.heap.size + 1 by simp] at h
/-- The copy under way: in the box bx. -/
structure Ap (w0 w wx : World) (bx : Nat) (y : Wh) (a : Ar) (hs : List Hd) : Prop where
  low : Below w.heap.size w wx
  res : InA wx (w.heap.size + 1) Wh.zero
  box : InA wx bx y
  new : w.heap.size + 2 ≤ bx
  own : OwnA wx (w.heap.size + 2) (fun k => (w0.heap.size ≤ k ∧ k < w.heap.size + 2) ∨ k = bx) y a hs
theorem kept_two (w : World) (c : Nat) (u v : Value) : Kept (fun k => k = c) w ((w.setCell ⟨c, 0, none⟩ u).setCell ⟨c, 1, none⟩ v) := by
  iterate 2 refine Kept.setCell ?_ _ _ (fun _ => rfl)
  exact Kept.refl _ _
theorem InA.store {w : World} {b : Nat} {x : Wh} (h : InA w b x) (y : Wh) : InA ((w.setCell ⟨b, 0, none⟩ (.slice y.t.o y.t.n y.t.c)).setCell ⟨b, 1, none⟩ (.slice y.f.o y.f.n y.f.c)) b y := by
  obtain ⟨h0, h1, hf⟩ := h
  exact ⟨(cell_set (cell_set h0)).trans (by simp), (cell_set (cell_set h1)).trans (by simp), fun i => by simpa using hf i⟩
theorem block_of {ao : Option Addr} {n c k : Nat} (h : (Value.slice ao n c).ownBlock = some k) : ∃ a, ao = some a ∧ a.block = k := by
  cases ao with
  | none => cases h
  | some a => cases h; exact ⟨a, rfl, rfl⟩
theorem ap_own {w0 W w3 : World} {s c : Nat} {x : Wh} {yt yf : Hd} {a : Ar} {hs : List Hd} (hF : HasF w0 x.f.o x.f.n x.f.c hs a.fr) (b0 : Below w0.heap.size w0 W) (b3 : Below W.heap.size W w3) (hs0 : w0.heap.size ≤ s)
    (ht : w3.ownsRow s 40 8 (.slice yt.o yt.n yt.c) yt.n (ths a.ts)) (hf : w3.ownsRow s 49 1 (.slice yf.o yf.n yf.c) yf.n (hds hs)) (hc : s ≤ c)
    (hct : ∀ a, yt.o = some a → a.block ≠ c) (hcf : ∀ a, yf.o = some a → a.block ≠ c) : OwnA w3 s (fun k => (w0.heap.size ≤ k ∧ k < s) ∨ k = c) ⟨yt, yf⟩ a hs := by
  have t4 := (own_row ht).2.2.2
  have f4 := (own_row hf).2.2.2
  refine ⟨ht, hf, hF.hl, fun i hi => (hF.each i hi).below (q_trans b0 b3), fun i hi h0 a' e sk => ?_, fun k e sk => ?_, fun k e sk => ?_⟩
  · obtain ⟨a2, e2, hl⟩ := (hF.each i hi).row.lt h0
    rw [e] at e2
    cases e2
    rcases sk with (⟨h1, _⟩ | h1) | h1 | h1
    · omega
    · omega
    · obtain ⟨a3, e3, h3⟩ := block_of h1
      have := (t4 a3 e3).1
      omega
    · obtain ⟨a3, e3, h3⟩ := block_of h1
      have := (f4 a3 e3).1
      omega
  · obtain ⟨a3, e3, h3⟩ := block_of e
    have h4 := (t4 a3 e3).1
    have h5 := hct a3 e3
    rcases sk with ⟨_, h1⟩ | h1 <;> omega
  · obtain ⟨a3, e3, h3⟩ := block_of e
    have h4 := (f4 a3 e3).1
    have h5 := hcf a3 e3
    rcases sk with ⟨_, h1⟩ | h1 <;> omega
/-- What holds at every moment of a region that draws its order: the box of an arena. -/
abbrev SA (W : World) (b : Nat) (x : Wh) (w : World) : Prop := w.cell? ⟨b, 0, none⟩ = some (.slice x.t.o x.t.n x.t.c) ∧ w.cell? ⟨b, 1, none⟩ = some (.slice x.f.o x.f.n x.f.c) ∧ Hid (Below W.heap.size W w)
theorem sa_keep {W w w' : World} {b : Nat} {x : Wh} (hb : Below w.heap.size w w') (h : SA W b x w) : SA W b x w' := by
  obtain ⟨h0, h1, h2⟩ := h
  have k : ∀ {a : Addr} {v : Value}, w.cell? a = some v → w'.cell? a = some v := fun h => (hb.cell (World.block_lt_of_cell? w _ h)).trans h
  exact ⟨k h0, k h1, q_trans h2.out hb⟩
theorem sa_drew {W w : World} {b : Nat} {x : Wh} (h : SA W b x w) : SA W b x w.drew := sa_keep (Below.refl _ w).drew h
theorem sa_alloc {W w : World} {b : Nat} {x : Wh} {o : Obj} (h : SA W b x w) : SA W b x (w.alloc o) := sa_keep (alloc_below _ _) h
theorem sa_set {W w : World} {b c : Nat} {x : Wh} {u v : Value} (h : SA W b x w) (hb : b < W.heap.size) (hc : W.heap.size ≤ c) : SA W b x ((w.setCell ⟨c, 0, none⟩ u).setCell ⟨c, 1, none⟩ v) := by
  obtain ⟨h0, h1, h2⟩ := h
  have k := kept_two w c u v
  exact ⟨k.cell h0 (show ¬ b = c by omega), k.cell h1 (show ¬ b = c by omega), q_set (q_set h2.out hc _) hc _⟩
theorem sa_low {W w : World} {b : Nat} {x : Wh} (h : SA W b x w) : Below W.heap.size W w := h.2.2.out
/-- The same, without what was there. -/
abbrev SB (b : Nat) (x : Wh) (w : World) : Prop := w.cell? ⟨b, 0, none⟩ = some (.slice x.t.o x.t.n x.t.c) ∧ w.cell? ⟨b, 1, none⟩ = some (.slice x.f.o x.f.n x.f.c)
theorem sb_keep {w w' : World} {b : Nat} {x : Wh} (hb : Below w.heap.size w w') (h : SB b x w) : SB b x w' := by
  have k : ∀ {a : Addr} {v : Value}, w.cell? a = some v → w'.cell? a = some v := fun h => (hb.cell (World.block_lt_of_cell? w _ h)).trans h
  exact ⟨k h.1, k h.2⟩
theorem sb_drew {w : World} {b : Nat} {x : Wh} (h : SB b x w) : SB b x w.drew := h
theorem sb_put {w : World} {b c k : Nat} {x : Wh} {u : Value} (h : SB b x w) (hb : b ≠ c) : SB b x (w.setCell ⟨c, k, none⟩ u) := by
  have q : Kept (fun i => i = c) w (w.setCell ⟨c, k, none⟩ u) := kept_set _ w _ _ rfl
  exact ⟨q.cell h.1 hb, q.cell h.2 hb⟩
theorem set_same {α : Type} (l : List α) (z : α) (k : Nat) : l.set k (l.getD k z) = l := by
  induction l generalizing k with
  | nil => rfl
  | cons x r ih =>
    cases k with
    | zero => simp
    | succ k => simp only [List.set_cons_succ, List.getD_cons_succ]; rw [ih k]
/-- Behind a store of another list's head. -/
theorem ap_put {w0 w wr w2 : World} {bx g k : Nat} {y : Wh} {a : Ar} {hs : List Hd} {v : Hd} {l : List Int} (h : Ap w0 w wr bx y a hs) (b : Below wr.heap.size wr w2) (hg : y.f.o = some ⟨g, 0, none⟩) (hB : w.heap.size + 2 ≤ g) (hk : k < a.fr.length) (hv : Mine w2 wr.heap.size v.o v.n v.c l) :
    Ap w0 w (w2.setCell ⟨g, k, none⟩ (.slice v.o v.n v.c)) bx y ⟨a.ts, a.fr.set k l⟩ (hs.set k v) := by
  have hb : (Value.slice y.f.o y.f.n y.f.c).ownBlock = some g := by rw [hg]; rfl
  have hne : bx ≠ g := fun e => h.own.af g hb (.inr e.symm)
  have q : Kept (fun i => i = g) w2 (w2.setCell ⟨g, k, none⟩ (.slice v.o v.n v.c)) := kept_set _ w2 _ _ rfl
  have lo := q_trans h.low b
  have hlt := h.box.lt
  have hnew := h.new
  have t4 := (own_row h.own.t).2.2.2
  have f4 := (own_row h.own.f).2.2.2
  refine ⟨lo.trans (q.below w.heap.size lo.size (fun i e => by omega)), (h.res.below b).kept q (by omega), (h.box.below b).kept q hne, hnew, (h.own.below b).setF hg k hk v l hv.has (fun h0 a' e s => ?_)⟩
  have := hv.new a' e
  rcases s with (⟨_, s⟩ | s) | s | s
  · omega
  · omega
  · obtain ⟨a3, e3, h3⟩ := block_of s
    have := (t4 a3 e3).2
    omega
  · obtain ⟨a3, e3, h3⟩ := block_of s
    have := (f4 a3 e3).2
    omega
set_option maxRecDepth 100000 in
set_option maxHeartbeats 2000000 in
theorem apart_any (x : Wh) (a : Ar) (w0 w : World) (HS : Hid (Sm a)) (H0 : Hid (HasA w0 x a)) (HB0 : Hid (Below w0.heap.size w0 w)) :
    Calls Try.prog 47 #[(.agg #[.slice x.t.o x.t.n x.t.c, .slice x.f.o x.f.n x.f.c])] w fun e w' => ∃ y, e = .returned (.agg #[.slice y.t.o y.t.n y.t.c, .slice y.f.o y.f.n y.f.c]) ∧ (∃ hs, OwnA w' w.heap.size (fun k => k < w.heap.size) y a hs) ∧ Below w.heap.size w w' := by
  go_enter Try.func47, Try.ntmps47
  go_upto_region 1 with fail
  have HD := hid (do_new w x)
  have HW : Hid (((w.alloc (.cells #[.slice x.t.o x.t.n x.t.c, .slice x.f.o x.f.n x.f.c] 25)).alloc (.cells #[.slice none 0 0, .slice none 0 0] 25)).heap.size = w.heap.size + 2) := by simp [Hid]
  generalize (w.alloc (.cells #[.slice x.t.o x.t.n x.t.c, .slice x.f.o x.f.n x.f.c] 25)).alloc (.cells #[.slice none 0 0, .slice none 0 0] 25) = W at HD HW ⊢
  have HH := hid (H0.out.below (q_trans HB0.out HD.out.low))
  obtain ⟨hs, hF0⟩ := H0.out.f
  have hF := hF0.below (q_trans HB0.out HD.out.low)
  have CT := hid (fun W' (b : Below W.heap.size W W') => cloneT_any x.t.o x.t.n x.t.c a.ts W' (HH.out.t.below b) (by rw [HH.out.tn]; exact HS.out.t))
  have CF := hid (fun W' (b : Below W.heap.size W W') => cloneF_any x.f.o x.f.n x.f.c hs a.fr W' (hF.below b) (by rw [HH.out.fn]; exact HS.out.f))
  obtain ⟨c0, c1, cf⟩ := HD.out.box
  go_cut [3] from 6 to 12 (fun s3 wx => ∃ (bx : Nat) (y : Wh), s3 = .pointer (some ⟨bx, 0, none⟩) ∧ Hid (Ap w0 w wx bx y a hs))
  case first =>
    have hS : SA W w.heap.size x W := ⟨c0, c1, Below.refl _ _⟩
    have hbW : w.heap.size < W.heap.size := HD.out.box.lt
    go_region_held3 (SA W w.heap.size x) (first | assumption | exact sa_alloc HS3.out | exact sa_set HS3.out hbW (by first | exact Nat.le_refl _ | exact HB2.out.size) | exact sa_drew (by assumption) | exact sa_alloc (by assumption) | exact sa_alloc (sa_drew (by assumption)) | exact sa_keep (by assumption) (by assumption))
      (first
        | (go_at_call 58; refine (CT.out _ (sa_low (by assumption))).mono ?_; rintro e w2 ⟨yt, rfl, ht, b⟩; have HT2 := hid ht; have HB2 := hid (q_trans (sa_low (by assumption)) b); (try (have HZ2 : Hid (InA w2 W.heap.size Wh.zero) := ((inA_new W.drew Wh.zero 25).below b))); clear ht)
        | (go_at_call 59; refine (CF.out _ (sa_low (by assumption))).mono ?_; rintro e w3 ⟨yf, rfl, hf, b⟩; have HF3 := hid hf; have HS3 : Hid (SA W w.heap.size x w3) := sa_keep b (by assumption); (try (first | (have HZ3 := hid (HZ2.out.below b); obtain ⟨z0, z1, zf⟩ := HZ3.out) | (have HZ4 : Hid (InA w3 w2.heap.size Wh.zero) := ((inA_new w2 Wh.zero 25).below b); obtain ⟨z0, z1, zf⟩ := HZ4.out))); clear hf))
    all_goals (try go_wp2_with fail)
    all_goals go_meet
    · have hz := HW.out
      have b3 := sa_low HS3.out
      have t2 := (own_row HT2.out).2.2.2
      have f2 := (own_row HF3.out).2.2.2
      have hsz : W.heap.size ≤ w2.heap.size := HB2.out.size
      have hsz3 : w2.heap.size ≤ w3.heap.size := b.size
      have ht : w3.ownsRow (w.heap.size + 2) 40 8 (.slice yt.o yt.n yt.c) yt.n (ths a.ts) := own_base (own_below HT2.out b) (fun k e => by obtain ⟨a3, e3, h3⟩ := block_of e; have : W.heap.size ≤ a3.block := (t2 a3 e3).1; omega)
      have hf : w3.ownsRow (w.heap.size + 2) 49 1 (.slice yf.o yf.n yf.c) yf.n (hds hs) := own_base HF3.out (fun k e => by obtain ⟨a3, e3, h3⟩ := block_of e; have := (f2 a3 e3).1; omega)
      have own := ap_own (c := w3.heap.size) hF0 (q_trans HB0.out HD.out.low) b3 (by have := HB0.out.size; omega) ht hf (by omega) (fun a3 e3 => by have := (t2 a3 e3).2; omega) (fun a3 e3 => by have := (f2 a3 e3).2; omega)
      exact ⟨_, ⟨yt, yf⟩, rfl, q_alloc (q_trans HD.out.low b3) _, (HD.out.res.below b3).below (alloc_below _ _), inA_new w3 ⟨yt, yf⟩ _, by omega, own.below (alloc_below _ _)⟩
    · have hz := HW.out
      have b3 := sa_low HS3.out
      have t2 := (own_row HT2.out).2.2.2
      have f2 := (own_row HF3.out).2.2.2
      have hsz : W.heap.size ≤ w2.heap.size := HB2.out.size
      have b' := q_trans (alloc_below w2 _) b
      have hsz3 : w2.heap.size ≤ w3.heap.size := b'.size
      have hsz4 : ∀ a3, yf.o = some a3 → w2.heap.size + 1 ≤ a3.block := fun a3 e3 => by have := (f2 a3 e3).1; simpa using this
      have ht : w3.ownsRow (w.heap.size + 2) 40 8 (.slice yt.o yt.n yt.c) yt.n (ths a.ts) := own_base (own_below HT2.out b') (fun k e => by obtain ⟨a3, e3, h3⟩ := block_of e; have : W.heap.size ≤ a3.block := (t2 a3 e3).1; omega)
      have hf : w3.ownsRow (w.heap.size + 2) 49 1 (.slice yf.o yf.n yf.c) yf.n (hds hs) := own_base HF3.out (fun k e => by obtain ⟨a3, e3, h3⟩ := block_of e; have := hsz4 a3 e3; omega)
      have own := ap_own (c := w2.heap.size) hF0 (q_trans HB0.out HD.out.low) b3 (by have := HB0.out.size; omega) ht hf (by omega) (fun a3 e3 => by have := (t2 a3 e3).2; omega) (fun a3 e3 => by have := hsz4 a3 e3; omega)
      have k2 := kept_two w3 w2.heap.size (.slice yt.o yt.n yt.c) (.slice yf.o yf.n yf.c)
      have lo := q_trans HD.out.low b3
      exact ⟨_, ⟨yt, yf⟩, rfl, lo.trans (k2.below w.heap.size lo.size (fun i e => by omega)), (HD.out.res.below b3).kept k2 (by omega), HZ4.out.store ⟨yt, yf⟩, by omega, own.kept k2 (fun i e => .inr e)⟩
    · have hz := HW.out
      have b3 := sa_low HS3.out
      have t2 := (own_row HT2.out).2.2.2
      have f2 := (own_row HF3.out).2.2.2
      have hsz : W.heap.size < w2.heap.size := HZ2.out.lt
      have hsz3 : w2.heap.size ≤ w3.heap.size := b.size
      have hsz4 : ∀ a3, yt.o = some a3 → W.heap.size + 1 ≤ a3.block := fun a3 e3 => by have := (t2 a3 e3).1; simpa using this
      have ht : w3.ownsRow (w.heap.size + 2) 40 8 (.slice yt.o yt.n yt.c) yt.n (ths a.ts) := own_base (own_below HT2.out b) (fun k e => by obtain ⟨a3, e3, h3⟩ := block_of e; have := hsz4 a3 e3; omega)
      have hf : w3.ownsRow (w.heap.size + 2) 49 1 (.slice yf.o yf.n yf.c) yf.n (hds hs) := own_base HF3.out (fun k e => by obtain ⟨a3, e3, h3⟩ := block_of e; have := (f2 a3 e3).1; omega)
      have own := ap_own (c := W.heap.size) hF0 (q_trans HB0.out HD.out.low) b3 (by have := HB0.out.size; omega) ht hf (by omega) (fun a3 e3 => by have := hsz4 a3 e3; omega) (fun a3 e3 => by have := (f2 a3 e3).1; omega)
      have k2 := kept_two w3 W.heap.size (.slice yt.o yt.n yt.c) (.slice yf.o yf.n yf.c)
      have lo := q_trans HD.out.low b3
      exact ⟨_, ⟨yt, yf⟩, rfl, lo.trans (k2.below w.heap.size lo.size (fun i e => by omega)), (HD.out.res.below b3).kept k2 (by omega), HZ3.out.store ⟨yt, yf⟩, by omega, own.kept k2 (fun i e => .inr e)⟩
  case rest =>
    obtain ⟨bx, y, rfl, HA⟩ := hcut
    clear c0 c1 cf CT CF hF HH HD HW
    obtain ⟨⟨yto, ytn, ytc⟩, ⟨yfo, yfn, yfc⟩⟩ := y
    have HFN : Hid (yfn = a.fr.length) := HA.out.own.fn
    have hm : yfn ≤ 1000 := by have := HFN.out; have := HS.out.f; omega
    obtain ⟨c0, c1, cf⟩ := HA.out.box
    go_wp2
    clear c0 c1 cf
    go_loopw [16] (fun i wr => ∃ (k : Nat) (hs : List Hd), k ≤ yfn ∧ i = .int .i64 k ∧ Hid (Ap w0 w wr bx ⟨⟨yto, ytn, ytc⟩, ⟨yfo, yfn, yfc⟩⟩ a hs) ∧ Hid (∀ j, j < k → Off (fun q => q < w.heap.size) (hs.getD j Hd.zero).o (vals (a.fr.getD j [])))) (fun i _ => yfn - (intOf i).toNat)
    case atStart => exact ⟨0, hs, Nat.zero_le _, rfl, HA, hid (fun j hj => absurd hj (by omega))⟩
    case round =>
      obtain ⟨k, hs2, hk, rfl, HG, HJ⟩ := hrel
      by_cases hlt : k < yfn
      · have i1 : (0 : Int) ≤ (k : Int) := by omega
        have i2 : (k : Int) < (yfn : Int) := by omega
        have HK : Hid (k < a.fr.length) := by have := HFN.out; exact (by omega : k < a.fr.length)
        obtain ⟨g, e, hg⟩ := own_head HG.out.own.f (by show 0 < yfn; omega)
        have e : yfo = some ⟨g, 0, none⟩ := e
        subst e
        obtain ⟨_, e, ca⟩ := (own_row HG.out.own.f).1.cell k _ (hds_at hs2 k (by have := HG.out.own.hl; have := HK.out; omega))
        cases e
        rw [add0] at ca
        obtain ⟨⟨lo, m, lc⟩, hy⟩ : ∃ y, hs2.getD k Hd.zero = y := ⟨_, rfl⟩
        have hL := HG.out.own.each k HK.out
        rw [hy] at ca hL
        replace ca : wr.cell? ⟨g, k, none⟩ = some (.slice lo m lc) := ca
        have CL := hid (fun W' (b : Below wr.heap.size wr W') => clone_any lo m lc (a.fr.getD k []) W' (hL.below b) (by have := hL.len; have := HS.out.e k; simp only at *; omega))
        have hfz : wr.frozen? ⟨g, k, none⟩ = false := own_frozen HG.out.own.f
        obtain ⟨c0, c1, cf⟩ := HG.out.box
        clear hL hy
        go_wp2_with fail
        have hne : bx ≠ g := fun e => HG.out.own.af g rfl (.inr e.symm)
        have hS : SB bx ⟨⟨yto, ytn, ytc⟩, ⟨some ⟨g, 0, none⟩, yfn, yfc⟩⟩ wr := ⟨c0, c1⟩
        go_region_held3 (SB bx ⟨⟨yto, ytn, ytc⟩, ⟨some ⟨g, 0, none⟩, yfn, yfc⟩⟩) (first | assumption | exact sb_put HS2.out hne | exact sb_keep (by assumption) (by assumption))
          (first | (go_at_call 60; refine (CL.out _ (by first | exact (Below.refl _ wr).drew | exact Below.refl _ _)).mono ?_; rintro e w2 ⟨v, rfl, hv, b⟩; have HV := hid hv; have HB2 : Hid (Below wr.heap.size wr w2) := (q_trans (Below.refl _ wr).drew b); have HS2 : Hid (SB bx ⟨⟨yto, ytn, ytc⟩, ⟨some ⟨g, 0, none⟩, yfn, yfc⟩⟩ w2) := (sb_keep b (by assumption)); have d0 : w2.cell? ⟨g, k, none⟩ = some (.slice lo m lc) := (HB2.out.cell (World.block_lt_of_cell? wr _ ca)).trans ca; have dfz : w2.frozen? ⟨g, k, none⟩ = false := (World.frozen?_of_block (HB2.out.block _ (World.block_lt_of_cell? wr _ ca))).trans hfz; clear hv))
        all_goals
          have HP : Hid (Ap w0 w (w2.setCell ⟨g, k, none⟩ (.slice v.o v.n v.c)) bx ⟨⟨yto, ytn, ytc⟩, ⟨some ⟨g, 0, none⟩, yfn, yfc⟩⟩ a (hs2.set k v)) := by
            have := ap_put (v := v) HG.out HB2.out rfl hg HK.out HV.out
            rwa [set_same] at this
          have HJ2 : Hid (∀ j, j < k + 1 → Off (fun q => q < w.heap.size) ((hs2.set k v).getD j Hd.zero).o (vals (a.fr.getD j []))) := by
            refine hid (fun j hj => ?_)
            have hl := HG.out.own.hl
            have hkk := HK.out
            by_cases e : j = k
            · subst e
              rw [show (hs2.set j v).getD j Hd.zero = v by simp [List.getD, hl, hkk]]
              intro h0 a' e s
              have h1 := HV.out.new a' e
              have h2 := HG.out.res.lt
              have h3 : wr.drew.heap.size = wr.heap.size := rfl
              have s : a'.block < w.heap.size := s
              omega
            · have e2 : k ≠ j := fun x => e x.symm
              rw [show (hs2.set k v).getD j Hd.zero = hs2.getD j Hd.zero by simp [List.getD, e2]]
              exact HJ.out j (by omega)
          clear d0 dfz c0 c1 cf ca hfz hS
          go_wp2_with fail
          go_roundw
          case rel => exact ⟨k + 1, _, by omega, by go_num, HP, HJ2⟩
          case measure => simp [intOf]; omega
      · obtain rfl : k = yfn := by omega
        obtain ⟨c0, c1, cf⟩ := HG.out.box
        obtain ⟨r0, r1, rf⟩ := HG.out.res
        have n2 : w.heap.size + 1 < wr.heap.size := HG.out.res.lt
        go_wp2_with fail
        have k2 := kept_two wr (w.heap.size + 1) (.slice yto ytn ytc) (.slice yfo k yfc)
        refine bodyPost_ret (v := .agg #[.slice yto ytn ytc, .slice yfo k yfc]) (by simp [results, Try.results47, go_sem, r0, r1]) rfl ⟨⟨⟨yto, ytn, ytc⟩, ⟨yfo, k, yfc⟩⟩, rfl, ⟨hs2, ?_⟩, HG.out.low.trans (k2.below w.heap.size HG.out.low.size (fun i e => by omega))⟩
        have hsz := HB0.out.size
        have h := HG.out.own.kept k2 (fun i e => .inl ⟨by omega, by omega⟩)
        exact ⟨own_base h.t (fun q e => by obtain ⟨a3, e3, h3⟩ := block_of e; have := ((own_row h.t).2.2.2 a3 e3).1; omega), own_base h.f (fun q e => by obtain ⟨a3, e3, h3⟩ := block_of e; have := ((own_row h.f).2.2.2 a3 e3).1; omega), h.hl, h.each, fun i hi h0 a' e s => s.elim (fun s => HJ.out i (by have := HFN.out; omega) h0 a' e s) (fun s => h.off i hi h0 a' e (.inr s)), fun q e s => by obtain ⟨a3, e3, h3⟩ := block_of e; have := ((own_row h.t).2.2.2 a3 e3).1; omega, fun q e s => by obtain ⟨a3, e3, h3⟩ := block_of e; have := ((own_row h.f).2.2.2 a3 e3).1; omega⟩
end Go.Proofs.Ytnagpedkmfmniaa.Ar

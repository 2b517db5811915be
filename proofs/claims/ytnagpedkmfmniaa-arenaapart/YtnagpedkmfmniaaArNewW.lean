/- What New does. -/
import Derived.Test.YtnagpedkmfmniaaArGive
import Derived.Test.YtnagpedkmfmniaaArNew
import Derived.Laws.MakeOwn
namespace Go.Proofs.Ytnagpedkmfmniaa.Ar
open Go.RowKit Go.Proofs.Ytnagpedkmfmniaa.Ha

theorem made8 (n : Nat) : (madeCells #[Value.int .i64 0, .int .i64 0, .int .i64 0, .int .i64 0, .int .i64 0, .int .i64 0, .int .i64 0, .int .i64 0] n).toList = List.replicate n (.int .i64 0) := by
  apply List.ext_getElem
  · simp [madeCells]
  · intro i h1 h2
    simp only [madeCells, Array.toList_map, List.getElem_map, List.getElem_replicate]
    have h8 : ∀ j, j < 8 → (#[Value.int .i64 0, .int .i64 0, .int .i64 0, .int .i64 0, .int .i64 0, .int .i64 0, .int .i64 0, .int .i64 0])[j]! = Value.int .i64 0 := by
      intro j hj
      match j, hj with
      | 0, _ => rfl
      | 1, _ => rfl
      | 2, _ => rfl
      | 3, _ => rfl
      | 4, _ => rfl
      | 5, _ => rfl
      | 6, _ => rfl
      | 7, _ => rfl
      | (j + 8), h => omega
    exact h8 _ (Nat.mod_lt _ (by decide))
theorem ths_zero (n : Nat) : ths (List.replicate n Th.zero) = List.replicate (n * 8) (.int .i64 0) := by
  induction n with
  | zero => rfl
  | succ n ih =>
    rw [List.replicate_succ]
    show thC Th.zero ++ ths (List.replicate n Th.zero) = _
    rw [ih, show (n + 1) * 8 = n * 8 + 1 + 1 + 1 + 1 + 1 + 1 + 1 + 1 by omega]
    simp only [List.replicate_succ]
    rfl
theorem hds_zero (m : Nat) : hds (List.replicate m Hd.zero) = List.replicate m (.slice none 0 0) := by simp [hds, Hd.v, Hd.zero]
theorem made1 (m : Nat) : (madeCells #[Value.slice none 0 0] m).toList = List.replicate m (.slice none 0 0) := by
  apply List.ext_getElem
  · simp [madeCells]
  · intro i h1 h2
    simp only [madeCells, Array.toList_map, List.getElem_map, List.getElem_replicate]
    have : ∀ j, j < 1 → (#[Value.slice none 0 0])[j]! = Value.slice none 0 0 := by
      intro j hj
      obtain rfl : j = 0 := by omega
      rfl
    exact this _ (Nat.mod_lt _ (by decide))
theorem make_T (n : Nat) (hn : n ≤ 1000) : ∃ CT : Array Value, CT.toList = ths (List.replicate n Th.zero) ∧ ∀ w : World, (Instr.makeSlice 22 (.int .i64 n) (.int .i64 n)).run Try.prog w = .ok (.slice (some ⟨w.heap.size, 0, none⟩) n n) (w.alloc (.cells CT 40)) := by
  obtain ⟨i0, hi, hz0, hz1, hz2⟩ := info_of infoT
  refine ⟨madeCells #[Value.int .i64 0, .int .i64 0, .int .i64 0, .int .i64 0, .int .i64 0, .int .i64 0, .int .i64 0, .int .i64 0] (n * 8), by rw [made8, ths_zero], fun w => ?_⟩
  have h := run_make (P := Try.prog) w 22 40 i0 _ Try.underlying22 hi hz0 .i64 .i64 n n (by omega) (by omega) (by rw [hz2]; omega) (by omega)
  rw [hz1] at h
  simpa [Value.cells] using h
theorem make_F (m : Nat) (hm : m ≤ 1000) : ∃ CF : Array Value, CF.toList = hds (List.replicate m Hd.zero) ∧ ∀ w : World, (Instr.makeSlice 23 (.int .i64 m) (.int .i64 m)).run Try.prog w = .ok (.slice (some ⟨w.heap.size, 0, none⟩) m m) (w.alloc (.cells CF 49)) := by
  obtain ⟨i0, hi, hz0, hz1, hz2⟩ := info_of infoF
  refine ⟨madeCells #[Value.slice none 0 0] m, by rw [made1, hds_zero], fun w => ?_⟩
  have h := run_make (P := Try.prog) w 23 49 i0 _ Try.underlying23 hi hz0 .i64 .i64 m m (by omega) (by omega) (by rw [hz2]; omega) (by omega)
  rw [hz1] at h
  simpa [Value.cells] using h
/-- The arena under way: in the box bx. -/
structure Nw (w wx : World) (bx : Nat) (y : Wh) (a : Ar) (hs : List Hd) : Prop where
  low : Below w.heap.size w wx
  res : InA wx w.heap.size Wh.zero
  box : InA wx bx y
  new : w.heap.size < bx
  own : OwnA wx (w.heap.size + 1) (fun k => k = w.heap.size ∨ k = bx) y a hs
theorem four (w : World) (o0 o1 o2 o3 : Obj) : ((((w.alloc o0).alloc o1).alloc o2).alloc o3).drew.heap[w.heap.size]? = some o0 ∧ ((((w.alloc o0).alloc o1).alloc o2).alloc o3).drew.heap[w.heap.size + 1]? = some o1 ∧ ((((w.alloc o0).alloc o1).alloc o2).alloc o3).drew.heap[w.heap.size + 1 + 1]? = some o2 ∧ ((((w.alloc o0).alloc o1).alloc o2).alloc o3).drew.heap[w.heap.size + 1 + 1 + 1]? = some o3 ∧ Below w.heap.size w ((((w.alloc o0).alloc o1).alloc o2).alloc o3).drew := by
  refine ⟨?_, ?_, ?_, ?_, (q_alloc (q_alloc (q_alloc (alloc_below w _) _) _) _).drew⟩
  · show ((((w.heap.push o0).push o1).push o2).push o3)[w.heap.size]? = _
    simp only [Array.getElem?_push, Array.size_push]
    repeat rw [if_neg (by omega)]
    exact if_pos trivial
  · show ((((w.heap.push o0).push o1).push o2).push o3)[w.heap.size + 1]? = _
    simp only [Array.getElem?_push, Array.size_push]
    repeat rw [if_neg (by omega)]
    exact if_pos trivial
  · show ((((w.heap.push o0).push o1).push o2).push o3)[w.heap.size + 1 + 1]? = _
    simp only [Array.getElem?_push, Array.size_push]
    repeat rw [if_neg (by omega)]
    exact if_pos trivial
  · show ((((w.heap.push o0).push o1).push o2).push o3)[w.heap.size + 1 + 1 + 1]? = _
    simp only [Array.getElem?_push, Array.size_push]
    repeat rw [if_neg (by omega)]
    exact if_pos trivial
theorem inA_heap {w : World} {b : Nat} {x : Wh} {T : TypeId} (h : w.heap[b]? = some (.cells #[.slice x.t.o x.t.n x.t.c, .slice x.f.o x.f.n x.f.c] T (0, 0))) : InA w b x := by
  constructor <;> simp [World.cell?, World.frozen?, h]
theorem nw_start {w wx : World} {gt gf bx n m : Nat} {CT CF : Array Value} (hn : n ≤ 1000) (hm : m ≤ 1000) (HCT : CT.toList = ths (List.replicate n Th.zero)) (HCF : CF.toList = hds (List.replicate m Hd.zero)) (low : Below w.heap.size w wx)
    (hres : wx.heap[w.heap.size]? = some (.cells #[.slice none 0 0, .slice none 0 0] 25 (0, 0))) (ht : wx.heap[gt]? = some (.cells CT 40 (0, 0))) (hf : wx.heap[gf]? = some (.cells CF 49 (0, 0)))
    (hb : wx.heap[bx]? = some (.cells #[.slice (some ⟨gt, 0, none⟩) n n, .slice (some ⟨gf, 0, none⟩) m m] 25 (0, 0))) (h1 : w.heap.size < gt) (h2 : w.heap.size < gf) (h3 : w.heap.size < bx) (h4 : gt ≠ bx) (h5 : gf ≠ bx) :
    Nw w wx bx ⟨⟨some ⟨gt, 0, none⟩, n, n⟩, ⟨some ⟨gf, 0, none⟩, m, m⟩⟩ ⟨List.replicate n Th.zero, List.replicate m []⟩ (List.replicate m Hd.zero) := by
  have l1 : CT.size = n * 8 := by have := congrArg List.length HCT; rw [len_ths] at this; simpa using this
  have l2 : CF.size = m := by have := congrArg List.length HCF; rw [len_hds] at this; simpa using this
  refine ⟨low, inA_heap (x := Wh.zero) hres, inA_heap (x := ⟨⟨some ⟨gt, 0, none⟩, n, n⟩, ⟨some ⟨gf, 0, none⟩, m, m⟩⟩) hb, h3, ⟨by rw [len_ths]; simp, .inr ⟨gt, n, CT, rfl, h1, ht, Nat.le_refl _, by unfold maxLen; omega, l1, ?_⟩⟩, ⟨by rw [len_hds]; simp, .inr ⟨gf, m, CF, rfl, h2, hf, Nat.le_refl _, by unfold maxLen; omega, by rw [l2]; simp, ?_⟩⟩, by simp, fun i hi => ?_, fun i hi h0 => ?_, fun k e sk => ?_, fun k e sk => ?_⟩
  · show List.take (n * 8) CT.toList = _
    rw [List.take_of_length_le (by simp; omega)]; exact HCT
  · show List.take (m * 1) CF.toList = _
    rw [List.take_of_length_le (by simp; omega)]; exact HCF
  · have hi : i < m := by simpa using hi
    rw [show (List.replicate m Hd.zero).getD i Hd.zero = Hd.zero by simp [List.getD, hi], show (List.replicate m ([] : List Int)).getD i [] = [] by simp [List.getD, hi]]
    exact has_nil _
  · have hi : i < m := by simpa using hi
    rw [show (List.replicate m ([] : List Int)).getD i [] = [] by simp [List.getD, hi]] at h0
    simp at h0
  · cases e
    have sk : gt = w.heap.size ∨ gt = bx := sk
    omega
  · cases e
    have sk : gf = w.heap.size ∨ gf = bx := sk
    omega
theorem sb_eight {w : World} {b gt o : Nat} {x : Wh} {gx : Int} (h : SB b x w) (hk : b ≠ gt) :
    SB b x ((((((((w.setCell ⟨gt, o, none⟩ (.int .i64 0)).setCell ⟨gt, o + 1, none⟩ (.int .i64 gx)).setCell ⟨gt, o + 2, none⟩ (.int .i64 0)).setCell ⟨gt, o + 3, none⟩ (.int .i64 0)).setCell ⟨gt, o + 4, none⟩ (.int .i64 0)).setCell ⟨gt, o + 5, none⟩ (.int .i64 0)).setCell ⟨gt, o + 6, none⟩ (.int .i64 (-1))).setCell ⟨gt, o + 7, none⟩ (.int .i64 0)) :=
  ⟨(kept_eight w gt o (Th.none gx)).cell h.1 hk, (kept_eight w gt o (Th.none gx)).cell h.2 hk⟩
section
variable {w W W' : World} {bx : Nat} {y : Wh} {a : Ar} {hs : List Hd}
theorem Nw.below (h : Nw w W bx y a hs) (b : Below W.heap.size W W') : Nw w W' bx y a hs := ⟨q_trans h.low b, h.res.below b, h.box.below b, h.new, h.own.below b⟩
theorem Nw.put (h : Nw w W bx y a hs) {g : Nat} (h0 : g ≠ w.heap.size) (h1 : g ≠ bx) (hB : w.heap.size + 1 ≤ g) (k : Kept (fun k => k = g) W W') {a' : Ar} {hs' : List Hd} (ho : OwnA W' (w.heap.size + 1) (fun k => k = w.heap.size ∨ k = bx) y a' hs') : Nw w W' bx y a' hs' :=
  ⟨h.low.trans (k.below w.heap.size h.low.size (fun i e => by omega)), h.res.kept k (fun e => h0 e.symm), h.box.kept k (fun e => h1 e.symm), h.new, ho⟩
theorem Nw.setT (h : Nw w W bx y a hs) {g : Nat} (hg : y.t.o = some ⟨g, 0, none⟩) (p : Nat) (hp : p < a.ts.length) (t : Th) :
    Nw w ((((((((W.setCell ⟨g, p * 8, none⟩ (.int .i64 t.ty)).setCell ⟨g, p * 8 + 1, none⟩ (.int .i64 t.gen)).setCell ⟨g, p * 8 + 2, none⟩ (.int .i64 t.refs)).setCell ⟨g, p * 8 + 3, none⟩ (.int .i64 t.st)).setCell ⟨g, p * 8 + 4, none⟩ (.int .i64 t.sz)).setCell ⟨g, p * 8 + 5, none⟩ (.int .i64 t.wa)).setCell ⟨g, p * 8 + 6, none⟩ (.int .i64 t.fm)).setCell ⟨g, p * 8 + 7, none⟩ (.int .i64 t.va)) bx y ⟨a.ts.set p t, a.fr⟩ hs := by
  have n := h.own.at_ g (by rw [hg]; rfl)
  exact h.put (fun e => n (.inl e)) (fun e => n (.inr e)) ((own_row h.own.t).2.2.2 _ hg).1 (kept_eight W g (p * 8) t) (h.own.setT hg p hp t)
theorem Nw.setF (h : Nw w W bx y a hs) (b : Below W.heap.size W W') {g : Nat} (hg : y.f.o = some ⟨g, 0, none⟩) (c : Nat) (hc : c < a.fr.length) (v : Hd) (l : List Int) (hv : Mine W' W.heap.size v.o v.n v.c l) :
    Nw w (W'.setCell ⟨g, c, none⟩ (.slice v.o v.n v.c)) bx y ⟨a.ts, a.fr.set c l⟩ (hs.set c v) := by
  have n := h.own.af g (by rw [hg]; rfl)
  refine (h.below b).put (fun e => n (.inl e)) (fun e => n (.inr e)) ((own_row h.own.f).2.2.2 _ hg).1 (kept_set _ W' _ _ rfl) ((h.own.below b).setF hg c hc v l hv.has (fun h0 a' e s => ?_))
  have h1 := hv.new a' e
  have h2 := h.box.lt
  have h3 := h.res.lt
  rcases s with (s | s) | s | s
  · omega
  · omega
  · obtain ⟨a3, e3, h3⟩ := block_of s
    have := ((own_row h.own.t).2.2.2 a3 e3).2
    omega
  · obtain ⟨a3, e3, h3⟩ := block_of s
    have := ((own_row h.own.f).2.2.2 a3 e3).2
    omega
end
/-- The things behind p rounds. -/
def tsN (n p : Nat) : List Th := List.replicate p (Th.none 0) ++ List.replicate (n - p) Th.zero
theorem tsN_zero (n : Nat) : tsN n 0 = List.replicate n Th.zero := by simp [tsN]
theorem tsN_len {n p : Nat} (h : p ≤ n) : (tsN n p).length = n := by simp [tsN]; omega
theorem tsN_succ {n p : Nat} (h : p < n) : (tsN n p).set p (Th.none 0) = tsN n (p + 1) := by
  unfold tsN
  rw [show n - p = (n - (p + 1)) + 1 by omega, List.replicate_succ, List.set_append_right _ _ (by simp), List.length_replicate, Nat.sub_self, List.set_cons_zero, List.replicate_succ', List.append_assoc]
  rfl
theorem tsN_full (n : Nat) : tsN n n = List.replicate n (Th.none 0) := by simp [tsN]
theorem newF_zero (m : Nat) : newF 0 m = List.replicate m [] := by
  unfold newF
  apply List.ext_getElem
  · simp
  · intro i h1 h2
    simp [newL]
theorem newF_succ (p m : Nat) : (newF p m).set (p % m) (newL p m (p % m) ++ [(p : Int)]) = newF (p + 1) m := by
  apply List.ext_getElem
  · simp [newF]
  · intro i h1 h2
    have hi : i < m := by simpa [newF] using h2
    rw [List.getElem_set]
    by_cases e : p % m = i
    · rw [if_pos e]
      simp only [newF, List.getElem_map, List.getElem_range]
      rw [newL_yes e, e]
    · rw [if_neg e]
      simp only [newF, List.getElem_map, List.getElem_range]
      rw [newL_no e]
set_option maxRecDepth 100000 in
set_option maxHeartbeats 4000000 in
theorem new_yes (n m : Nat) (w : World) (h1 : (1 : Int) ≤ (n : Int)) (h2 : (n : Int) ≤ 64) (h3 : (1 : Int) ≤ (m : Int)) (h4 : (m : Int) ≤ 64) :
    Calls Try.prog 11 #[.int .i64 n, .int .i64 m] w fun e w' => ∃ y : Wh, e = .returned (.tuple #[(.agg #[.slice y.t.o y.t.n y.t.c, .slice y.f.o y.f.n y.f.c]), .int .i64 0]) ∧ HasO w' y (newA n m) ∧ Below w.heap.size w w' := by
  obtain ⟨CT, hCT, mT⟩ := make_T n (by omega)
  obtain ⟨CF, hCF, mF⟩ := make_F m (by omega)
  have HCT := hid hCT
  have HCF := hid hCF
  clear hCT hCF
  go_enter Try.func11, Try.ntmps11
  go_upto_region 3 with fail
  go_cut [6] from 23 to 27 (fun s6 wx => ∃ (bx : Nat) (y : Wh), s6 = .pointer (some ⟨bx, 0, none⟩) ∧ Hid (Nw w wx bx y ⟨List.replicate n Th.zero, List.replicate m []⟩ (List.replicate m Hd.zero)) ∧ y.t.n = n ∧ y.f.n = m)
  case first =>
    have hz : w.heap.size < w.heap.size + 1 := by omega
    have hz1 : w.heap.size < w.heap.size + 1 + 1 := by omega
    have hz2 : w.heap.size < w.heap.size + 1 + 1 + 1 := by omega
    go_region
    all_goals (try go_wp2_with fail)
    all_goals go_meet
    · have F := four w (.cells #[.slice none 0 0, .slice none 0 0] 25) (.cells CT 40) (.cells CF 49) (.cells #[.slice (some ⟨w.heap.size + 1, 0, none⟩) n n, .slice (some ⟨w.heap.size + 1 + 1, 0, none⟩) m m] 25)
      exact ⟨_, ⟨⟨_, n, n⟩, ⟨_, m, m⟩⟩, rfl, nw_start (by omega) (by omega) HCT.out HCF.out F.2.2.2.2 F.1 F.2.1 F.2.2.1 F.2.2.2.1 hz hz1 hz2 (by omega) (by omega), rfl, rfl⟩
    · have F := four w (.cells #[.slice none 0 0, .slice none 0 0] 25) (.cells CT 40) (.cells #[.slice (some ⟨w.heap.size + 1, 0, none⟩) n n, .slice (some ⟨w.heap.size + 1 + 1 + 1, 0, none⟩) m m] 25) (.cells CF 49)
      exact ⟨_, ⟨⟨_, n, n⟩, ⟨_, m, m⟩⟩, rfl, nw_start (by omega) (by omega) HCT.out HCF.out F.2.2.2.2 F.1 F.2.1 F.2.2.2.1 F.2.2.1 hz hz2 hz1 (by omega) (by omega), rfl, rfl⟩
    · have F := four w (.cells #[.slice none 0 0, .slice none 0 0] 25) (.cells CF 49) (.cells CT 40) (.cells #[.slice (some ⟨w.heap.size + 1 + 1, 0, none⟩) n n, .slice (some ⟨w.heap.size + 1, 0, none⟩) m m] 25)
      exact ⟨_, ⟨⟨_, n, n⟩, ⟨_, m, m⟩⟩, rfl, nw_start (by omega) (by omega) HCT.out HCF.out F.2.2.2.2 F.1 F.2.2.1 F.2.1 F.2.2.2.1 hz1 hz hz2 (by omega) (by omega), rfl, rfl⟩
    · have F := four w (.cells #[.slice none 0 0, .slice none 0 0] 25) (.cells CF 49) (.cells #[.slice (some ⟨w.heap.size + 1 + 1 + 1, 0, none⟩) n n, .slice (some ⟨w.heap.size + 1, 0, none⟩) m m] 25) (.cells CT 40)
      exact ⟨_, ⟨⟨_, n, n⟩, ⟨_, m, m⟩⟩, rfl, nw_start (by omega) (by omega) HCT.out HCF.out F.2.2.2.2 F.1 F.2.2.2.1 F.2.1 F.2.2.1 hz2 hz hz1 (by omega) (by omega), rfl, rfl⟩
    · have F := four w (.cells #[.slice none 0 0, .slice none 0 0] 25) (.cells #[.slice (some ⟨w.heap.size + 1 + 1, 0, none⟩) n n, .slice (some ⟨w.heap.size + 1 + 1 + 1, 0, none⟩) m m] 25) (.cells CT 40) (.cells CF 49)
      exact ⟨_, ⟨⟨_, n, n⟩, ⟨_, m, m⟩⟩, rfl, nw_start (by omega) (by omega) HCT.out HCF.out F.2.2.2.2 F.1 F.2.2.1 F.2.2.2.1 F.2.1 hz1 hz2 hz (by omega) (by omega), rfl, rfl⟩
    · have F := four w (.cells #[.slice none 0 0, .slice none 0 0] 25) (.cells #[.slice (some ⟨w.heap.size + 1 + 1 + 1, 0, none⟩) n n, .slice (some ⟨w.heap.size + 1 + 1, 0, none⟩) m m] 25) (.cells CF 49) (.cells CT 40)
      exact ⟨_, ⟨⟨_, n, n⟩, ⟨_, m, m⟩⟩, rfl, nw_start (by omega) (by omega) HCT.out HCF.out F.2.2.2.2 F.1 F.2.2.2.1 F.2.2.1 F.2.1 hz2 hz1 hz (by omega) (by omega), rfl, rfl⟩
  case rest =>
    obtain ⟨bx, ⟨⟨yto, ytn, ytc⟩, ⟨yfo, yfn, yfc⟩⟩, rfl, HN, hyt, hyf⟩ := hcut
    have hyt : ytn = n := hyt
    have hyf : yfn = m := hyf
    subst hyt
    subst hyf
    clear mT mF HCT HCF
    go_wp2
    go_loopw [29] (fun i wr => ∃ (p : Nat) (hs : List Hd), p ≤ ytn ∧ i = .int .i64 p ∧ Hid (Nw w wr bx ⟨⟨yto, ytn, ytc⟩, ⟨yfo, yfn, yfc⟩⟩ ⟨tsN ytn p, newF p yfn⟩ hs)) (fun i _ => ytn - (intOf i).toNat)
    case atStart => exact ⟨0, _, Nat.zero_le _, rfl, by rw [tsN_zero, newF_zero]; exact HN⟩
    case round =>
      obtain ⟨p, hs, hp, rfl, HG⟩ := hrel
      by_cases hlt : p < ytn
      · have i1 : (0 : Int) ≤ (p : Int) := by omega
        have i2 : (p : Int) < (ytn : Int) := by omega
        have HP := hid hlt
        obtain ⟨gt, e, hgt⟩ := own_head HG.out.own.t (by show 0 < ytn; omega)
        have e : yto = some ⟨gt, 0, none⟩ := e
        subst e
        obtain ⟨gf, e, hgf⟩ := own_head HG.out.own.f (by show 0 < yfn; omega)
        have e : yfo = some ⟨gf, 0, none⟩ := e
        subst e
        obtain ⟨c0, c1, cf⟩ := HG.out.box
        have HNE : Hid (bx ≠ gt ∧ bx ≠ gf) := ⟨fun e => HG.out.own.at_ gt rfl (.inr e.symm), fun e => HG.out.own.af gf rfl (.inr e.symm)⟩
        go_upto_region 7 with fail
        have hS : SB bx ⟨⟨some ⟨gt, 0, none⟩, ytn, ytc⟩, ⟨some ⟨gf, 0, none⟩, yfn, yfc⟩⟩ wr := ⟨c0, c1⟩
        have CO := hid (nothing_any 0)
        go_region_held3 (SB bx ⟨⟨some ⟨gt, 0, none⟩, ytn, ytc⟩, ⟨some ⟨gf, 0, none⟩, yfn, yfc⟩⟩) (first | with_reducible assumption | with_reducible exact HS3.out | with_reducible exact sb_eight HS3.out HNE.out.1 | with_reducible exact sb_drew hS)
          (first
            | (go_at_call 28; refine (CO.out _).mono ?_; rintro e w3 ⟨rfl, b⟩; have HB3 : Hid (Below wr.heap.size wr w3) := (by first | exact b | exact q_trans (Below.refl _ wr).drew b); have HS3 : Hid (SB bx ⟨⟨some ⟨gt, 0, none⟩, ytn, ytc⟩, ⟨some ⟨gf, 0, none⟩, yfn, yfc⟩⟩ w3) := (sb_keep HB3.out hS); obtain ⟨o0, o1, o2, o3, o4, o5, o6, o7⟩ := own_at (HG.out.own.below HB3.out).t p (by rw [show Ar.ts ⟨tsN ytn p, newF p yfn⟩ = tsN ytn p from rfl, tsN_len hp]; exact hlt); have ofz : ∀ j, w3.frozen? ⟨gt, j, none⟩ = false := (fun j => own_frozen (HG.out.own.below HB3.out).t)))
        have h7 := (HG.out.below HB3.out).setT rfl p (by rw [show Ar.ts ⟨tsN ytn p, newF p yfn⟩ = tsN ytn p from rfl, tsN_len hp]; exact hlt) (Th.none 0)
        dsimp only at h7
        rw [tsN_succ HP.out] at h7
        dsimp only [Th.none] at h7
        replace HG := hid h7
        clear h7 o0 o1 o2 o3 o4 o5 o6 o7 ofz hS HS3 HB3 b c0 c1 cf CO
        generalize (((((((w3.setCell _ _).setCell _ _).setCell _ _).setCell _ _).setCell _ _).setCell _ _).setCell _ _).setCell _ _ = W7 at HG ⊢
        go_upto_region 8 with fail
        obtain ⟨c, hc⟩ : ∃ c, p % yfn = c := ⟨_, rfl⟩
        have hcm : c < yfn := by rw [← hc]; exact Nat.mod_lt _ (by omega)
        have hrem : (p : Int).tmod (yfn : Int) = (c : Int) := by rw [← hc]; rfl
        have m0 : ((yfn : Int) == 0) = false := bne_of (by omega)
        have j1 : (0 : Int) ≤ (c : Int) := by omega
        have j2 : (c : Int) < (yfn : Int) := by omega
        have HC := hid hc
        have HCM : Hid (c < (newF p yfn).length) := by rw [len_newF]; exact hcm
        obtain ⟨_, e, ci⟩ := (own_row HG.out.own.f).1.cell c _ (hds_at hs c (by rw [HG.out.own.hl]; exact HCM.out))
        cases e
        rw [add0] at ci
        obtain ⟨⟨zo, zm, zc⟩, hz⟩ : ∃ z, hs.getD c Hd.zero = z := ⟨_, rfl⟩
        have hZ := HG.out.own.each c HCM.out
        rw [hz] at ci hZ
        replace ci : W7.cell? ⟨gf, c, none⟩ = some (.slice zo zm zc) := ci
        rw [show Ar.fr ⟨tsN ytn (p + 1), newF p yfn⟩ = newF p yfn from rfl, newF_at p yfn c hcm] at hZ
        have hzm : zm ≤ 1000 := by have := hZ.len; have := len_newL p yfn c; simp only at *; omega
        have CM := hid (fun W' (b : Below W7.heap.size W7 W') => more_any zo zm zc (newL p yfn c) (p : Int) W' hzm (hZ.below b))
        have hfz : W7.frozen? ⟨gf, c, none⟩ = false := own_frozen HG.out.own.f
        obtain ⟨c0, c1, cf⟩ := HG.out.box
        clear hc hz hZ hzm
        go_region_with (go_at_call 29; refine (CM.out _ (by first | exact (Below.refl _ W7).drew | exact Below.refl _ _)).mono ?_; rintro e w8 ⟨v, rfl, hv, b⟩; have HB8 : Hid (Below W7.heap.size W7 w8) := (by first | exact b | exact q_trans (Below.refl _ W7).drew b); have HV : Hid (Mine w8 W7.heap.size v.o v.n v.c (newL p yfn c ++ [(p : Int)])) := hv; have e1 := (HG.out.box.below HB8.out).c1; have d8 := (kept_below (S := fun _ => False) HB8.out).cell ci (fun e => e); have dfz : w8.frozen? ⟨gf, c, none⟩ = false := ((World.frozen?_of_block (HB8.out.block _ (World.block_lt_of_cell? W7 _ ci))).trans hfz); clear hv b)
        all_goals
          have h9 := HG.out.setF HB8.out rfl c HCM.out v _ HV.out
          dsimp only at h9
          rw [← HC.out, newF_succ] at h9
          rw [HC.out] at h9
          have H9 := hid h9
          clear h9 e1 d8 dfz c0 c1 cf ci hfz CM HV HB8 hrem m0
          go_wp2_with fail
          go_roundw
          case rel => exact ⟨p + 1, _, by omega, by go_num, H9⟩
          case measure => simp [intOf]; omega
      · obtain rfl : p = ytn := by omega
        obtain ⟨c0, c1, cf⟩ := HG.out.box
        obtain ⟨r0, r1, rf⟩ := HG.out.res
        go_wp2_with fail
        have k2 := kept_two wr w.heap.size (.slice yto p ytc) (.slice yfo yfn yfc)
        refine bodyPost_ret (v := .tuple #[.agg #[.slice yto p ytc, .slice yfo yfn yfc], .int .i64 0]) (by simp [results, Try.results11, go_sem, r0, r1]) rfl ⟨⟨⟨yto, p, ytc⟩, ⟨yfo, yfn, yfc⟩⟩, rfl, ?_, HG.out.low.trans (k2.below w.heap.size HG.out.low.size (fun i e => by omega))⟩
        have h := (HG.out.own.kept k2 (fun i e => .inl e)).hasO
        rwa [tsN_full] at h
set_option maxHeartbeats 1000000 in
theorem new_no (n m : Int) (w : World) (h : ¬ (1 ≤ n ∧ n ≤ 64 ∧ 1 ≤ m ∧ m ≤ 64)) :
    Calls Try.prog 11 #[.int .i64 n, .int .i64 m] w fun e w' => e = .returned (.tuple #[.agg #[.slice none 0 0, .slice none 0 0], .int .i64 2]) ∧ Below w.heap.size w w' := by
  have hw : ∀ w : World, Below w.heap.size w (w.alloc (.cells #[.slice none 0 0, .slice none 0 0] 25)) := fun w => alloc_below w _
  by_cases h1 : 1 ≤ n
  · by_cases h2 : n ≤ 64
    · by_cases h3 : 1 ≤ m
      · have h4 : ¬ m ≤ 64 := fun e => h ⟨h1, h2, h3, e⟩
        clear h
        go_enter Try.func11, Try.ntmps11
        go_wp2
        refine bodyPost_ret (v := .tuple #[.agg #[.slice none 0 0, .slice none 0 0], .int .i64 2]) (by simp [results, Try.results11, go_sem]) rfl ⟨rfl, hw w⟩
      · clear h
        go_enter Try.func11, Try.ntmps11
        go_wp2
        refine bodyPost_ret (v := .tuple #[.agg #[.slice none 0 0, .slice none 0 0], .int .i64 2]) (by simp [results, Try.results11, go_sem]) rfl ⟨rfl, hw w⟩
    · clear h
      go_enter Try.func11, Try.ntmps11
      go_wp2
      refine bodyPost_ret (v := .tuple #[.agg #[.slice none 0 0, .slice none 0 0], .int .i64 2]) (by simp [results, Try.results11, go_sem]) rfl ⟨rfl, hw w⟩
  · clear h
    go_enter Try.func11, Try.ntmps11
    go_wp2
    refine bodyPost_ret (v := .tuple #[.agg #[.slice none 0 0, .slice none 0 0], .int .i64 2]) (by simp [results, Try.results11, go_sem]) rfl ⟨rfl, hw w⟩
end Go.Proofs.Ytnagpedkmfmniaa.Ar

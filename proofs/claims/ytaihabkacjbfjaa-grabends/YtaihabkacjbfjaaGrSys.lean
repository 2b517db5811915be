/- Several grabs on cells: how they begin, and one's step. -/
import Derived.Test.YtaihabkacjbfjaaGrBegins
import Derived.Test.YtaihabkacjbfjaaGrAlone0
namespace Go.Proofs.Ytaihabkacjbfjaa.Gr
open Go.RowKit Go.Proofs.Ytaihabkacjbfjaa.Ce

theorem srt_len {l : List Int} (h : l.length = 0) : (srt l).length = 0 := by
  rw [List.eq_nil_of_length_eq_zero h]
  rfl
theorem len_srt0 {l : List Int} (h : (srt l).length = 0) : l.length = 0 := by
  cases l with
  | nil => rfl
  | cons x r =>
    have : x ∈ srt (x :: r) := mem_srt.2 (by simp)
    rw [List.eq_nil_of_length_eq_zero h] at this
    simp at this
theorem cel_base {w : World} {B B' p g vcap : Nat} {tao : Option Addr} {tcap : Nat} {s : S} (h : Cel w B p g vcap tao tcap s) (hb : B' ≤ B) : Cel w B' p g vcap tao tcap s := {
  blk := h.blk
  val := own_base h.val (fun k e => Nat.le_trans hb (h.lt k (.inr (.inl (by cases e; rfl)))).1)
  tra := own_base h.tra (fun k e => by
    cases tao with
    | none => cases e
    | some a => exact Nat.le_trans hb (h.lt k (.inr (.inr ⟨a, rfl, Option.some.inj e⟩))).1)
  hp := Nat.le_trans hb h.hp
  hg := Nat.le_trans hb h.hg
  hpg := h.hpg
  htp := h.htp
  htg := h.htg }
theorem sys_start {w W W2 : World} {go : Option Addr} {gcap : Nat} {xs : List Gh} (h : Grs w W go gcap xs) (hc : Cel W2 W.heap.size (W.heap.size + 1) W.heap.size 8 none 0 (S.new 8)) (hb : Below W.heap.size W W2) :
    Sys w W2 (W.heap.size + 1) W.heap.size 8 none 0 (S.new 8) go gcap xs := by
  have h2 := h.below hb
  have nf : ∀ k, k < W.heap.size → ¬ foot (W.heap.size + 1) W.heap.size none k := by
    rintro k hk (e | e | ⟨a, e, _⟩)
    · omega
    · omega
    · cases e
  refine ⟨cel_base hc h.low.size, h2.row, h2.has, h2.offG, fun i hi h0 a e => ?_, fun a e => nf _ ((own_row h.row).2.2.2 a e).2, h2.low⟩
  obtain ⟨b, e2, hb2⟩ := (h.has i hi).row.lt h0
  rw [e] at e2
  cases e2
  exact nf _ hb2
theorem inv_start {ws : List (Bool × List Int)} {xs : List Gh} (h : ∀ j, j < xs.length → okW (ws.getD j (false, [])) ∧ (xs.getD j Gh.zero).g = begG ws j) : Inv (stOf xs (S.new 8).vs) := by
  have hv : ∀ c, (stOf xs (S.new 8).vs).v c = 0 := by
    intro c
    simp only [stOf, St.v, S.new, List.getD, List.getElem?_replicate]
    split <;> rfl
  have hg : ∀ i, i < xs.length → (stOf xs (S.new 8).vs).g i = ⟨(i : Int) + 1, srt (ws.getD i (false, [])).2, if (ws.getD i (false, [])).2.length = 0 then 2 else 1, 0, 0, (ws.getD i (false, [])).1⟩ := by
    intro i hi
    rw [stOf_g xs _ i hi, (h i hi).2]
    unfold begG
    rw [startG_yes (startE_ok (h i hi).1)]
  have z1 : ((stOf xs (S.new 8).vs).gs.map (fun g => g.a)).sum = 0 := by
    have : ∀ x ∈ (stOf xs (S.new 8).vs).gs.map (fun g => g.a), x = 0 := by
      intro x hx
      obtain ⟨g, hgm, rfl⟩ := List.mem_map.1 hx
      obtain ⟨i, hi, rfl⟩ := List.getElem_of_mem hgm
      have e := hg i (by rw [stOf_len] at hi; exact hi)
      unfold St.g at e
      rw [List.getD, List.getElem?_eq_getElem hi] at e
      simp only [Option.getD_some] at e
      rw [e]
    generalize (stOf xs (S.new 8).vs).gs.map (fun g => g.a) = l at this
    induction l with
    | nil => rfl
    | cons y r ih => rw [List.sum_cons, this y (by simp), ih (fun x hx => this x (by simp [hx]))]; rfl
  refine ⟨by simp [stOf, S.new], fun i hi => ?_, fun i hi c hc => ?_, fun c hc => .inl (hv c), ?_⟩
  · rw [stOf_len] at hi
    rw [hg i hi]
    refine ⟨rfl, rise_srt _, fun c hc => (h i hi).1.2 c (mem_srt.1 hc), Int.le_refl _, by simp, ?_⟩
    simp only
    by_cases e : (ws.getD i (false, [])).2.length = 0
    · rw [if_pos e]
      have := srt_len e
      omega
    · rw [if_neg e]
      have : (srt (ws.getD i (false, [])).2).length ≠ 0 := fun h => e (len_srt0 h)
      omega
  · rw [stOf_len] at hi
    rw [hv, hg i hi]
    unfold heldG
    simp
    omega
  · rw [z1]
    simp [stOf, S.new]
/-- How far they may be. -/
structure Rn (xs : List Gh) (s : S) (r : Nat) : Prop where
  n : s.n ≤ r
  t : ∀ i, i < xs.length → 0 ≤ (xs.getD i Gh.zero).g.t ∧ (xs.getD i Gh.zero).g.t ≤ r
theorem rn_start {ws : List (Bool × List Int)} {xs : List Gh} (h : ∀ j, j < xs.length → okW (ws.getD j (false, [])) ∧ (xs.getD j Gh.zero).g = begG ws j) : Rn xs (S.new 8) 0 := by
  refine ⟨by simp [S.new], fun i hi => ?_⟩
  rw [(h i hi).2]
  unfold begG
  rw [startG_yes (startE_ok (h i hi).1)]
  exact ⟨by simp, by simp⟩
theorem Rn.mono {xs : List Gh} {s : S} {r r' : Nat} (h : Rn xs s r) (hr : r ≤ r') : Rn xs s r' := ⟨Nat.le_trans h.n hr, fun i hi => ⟨(h.t i hi).1, by have := (h.t i hi).2; omega⟩⟩
/-- The k-th behind its step. -/
def nxG (xs : List Gh) (s : S) (k : Nat) (ao : Option Addr) (cap : Nat) : Gh := ⟨doG (xs.getD k Gh.zero).g s.vs, ao, cap⟩
theorem st_step (xs : List Gh) (s : S) (k : Nat) (ao : Option Addr) (cap : Nat) (hk : k < xs.length) : stOf (xs.set k (nxG xs s k ao cap)) (doS (xs.getD k Gh.zero).g s).vs = (stOf xs s.vs).step k := by
  unfold St.step
  rw [stOf_g xs s.vs k hk, doS_vs]
  simp [stOf, nxG, List.map_set]
theorem Rn.step {xs : List Gh} {s : S} {r k : Nat} {ao : Option Addr} {cap : Nat} (h : Rn xs s r) (hk : k < xs.length) : Rn (xs.set k (nxG xs s k ao cap)) (doS (xs.getD k Gh.zero).g s) (r + 1) := by
  refine ⟨by have := doS_n (xs.getD k Gh.zero).g s; have := h.n; omega, fun i hi => ?_⟩
  rw [List.length_set] at hi
  have gd : (xs.set k (nxG xs s k ao cap)).getD i Gh.zero = if i = k then nxG xs s k ao cap else xs.getD i Gh.zero := by
    simp only [List.getD, List.getElem?_set]
    by_cases e : k = i
    · subst e; simp [hk]
    · rw [if_neg e, if_neg (fun h => e h.symm)]
  rw [gd]
  split
  · have h1 := do_t (xs.getD k Gh.zero).g s.vs
    have h2 := h.t k hk
    unfold nxG
    simp only
    omega
  · have := h.t i hi
    omega
/-- ONE OF SEVERAL DOES A STEP. -/
theorem does_sys {w W : World} {p gb vcap : Nat} {tao : Option Addr} {tcap : Nat} {s : S} {g gcap : Nat} {xs : List Gh} {r k : Nat} (HS : Sys w W p gb vcap tao tcap s (some ⟨g, 0, none⟩) gcap xs) (HI : Inv (stOf xs s.vs)) (HR : Rn xs s r) (hr : r ≤ 20000) (hk : k < xs.length) :
    Calls Try.prog 25 #[.pointer (some ⟨p, 0, none⟩), (.agg #[.int .i64 (xs.getD k Gh.zero).g.w, .slice (xs.getD k Gh.zero).ao (xs.getD k Gh.zero).g.cs.length (xs.getD k Gh.zero).cap, .int .i64 (xs.getD k Gh.zero).g.p, .int .i64 (xs.getD k Gh.zero).g.a, .int .i64 (xs.getD k Gh.zero).g.t, .bool (xs.getD k Gh.zero).g.b])] W fun e w' => ∃ ao' cap' tao' tcap', e = .returned (.agg #[.int .i64 (nxG xs s k ao' cap').g.w, .slice ao' (nxG xs s k ao' cap').g.cs.length cap', .int .i64 (nxG xs s k ao' cap').g.p, .int .i64 (nxG xs s k ao' cap').g.a, .int .i64 (nxG xs s k ao' cap').g.t, .bool (nxG xs s k ao' cap').g.b]) ∧
      Dn W w' w.heap.size p gb vcap tao tao' tcap' (doS (xs.getD k Gh.zero).g s) (xs.getD k Gh.zero).ao ao' (nxG xs s k ao' cap').g.cs.length cap' (nxG xs s k ao' cap').g.cs := by
  have hO := HI.ok k (by rw [stOf_len]; exact hk)
  rw [stOf_g xs s.vs k hk] at hO
  have h8 := rise_len hO.rise hO.low
  have ha0 := hO.a0
  have hal := hO.al
  have ht := HR.t k hk
  have hn := HR.n
  refine (does_any (xs.getD k Gh.zero).g _ _ _ HS.cel (HS.has k hk) (HS.offC k hk) (by omega) (by omega) (by omega) (by omega)).mono ?_
  rintro e w' ⟨ao', cap', rfl, tao', tcap', d⟩
  refine ⟨ao', cap', tao', tcap', ?_, ?_⟩
  · unfold nxG
    simp only [do_cs]
  · unfold nxG
    simp only [do_cs]
    exact d
/-- Behind the call the grabs lie as they did, and may be written. -/
theorem after_does {w W W' : World} {p gb vcap : Nat} {tao tao' : Option Addr} {tcap tcap' : Nat} {s s' : S} {g gcap : Nat} {xs : List Gh} {k B n cap' : Nat} {ao ao' : Option Addr} {l : List Int} (HS : Sys w W p gb vcap tao tcap s (some ⟨g, 0, none⟩) gcap xs) (d : Dn W W' B p gb vcap tao tao' tcap' s' ao ao' n cap' l) (hk : k < xs.length) :
    (∀ j u, (gC (xs.getD k Gh.zero))[j]? = some u → W'.cell? ⟨g, k * 6 + j, none⟩ = some u) ∧ ∀ j, W'.frozen? ⟨g, j, none⟩ = false := by
  have hnf : ¬ foot p gb tao g := HS.gc _ rfl
  refine ⟨fun j u hu => d.kept.cell (HS.at_ k hk j u hu) hnf, fun j => ?_⟩
  have hlt : g < W.heap.size := (HS.row.lt g rfl).2
  exact (World.frozen?_of_block (a := ⟨g, j, none⟩) (d.kept.block g hlt hnf)).trans (HS.frozen j)
end Go.Proofs.Ytaihabkacjbfjaa.Gr

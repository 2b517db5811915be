/- What the document's Insert does. -/
import Derived.Test.YtdaakigofpehjaaTrRRoot
namespace Go.Proofs.Ytdaakigofpehjaa.Tr
open Go.RowKit

theorem at_two0 (w : World) (a b : P) (t : TypeId) : AtP ((w.alloc (.cells #[.int .i64 a.1, .int .i64 a.2] t)).alloc (.cells #[.int .i64 b.1, .int .i64 b.2] t)) ⟨w.heap.size, 0, none⟩ a := (at_new w a t).below (alloc_below _ _)
/-- A key's box, and one depth. -/
abbrev SI (c : Nat) (k : P) (a : Addr) (x : Int) (w : World) : Prop := w.cell? ⟨c, 0, none⟩ = some (.int .i64 k.1) ∧ w.cell? ⟨c, 1, none⟩ = some (.int .i64 k.2) ∧ w.cell? ⟨a.block, a.off + 2, none⟩ = some (.int .i64 x)
theorem si_drew {c : Nat} {k : P} {a : Addr} {x : Int} {w : World} (h : SI c k a x w) : SI c k a x w.drew := h
theorem si_keep {c : Nat} {k : P} {a : Addr} {x : Int} {w w' : World} (h : SI c k a x w) (q : Below w.heap.size w w') : SI c k a x w' :=
  ⟨(q.cell (World.block_lt_of_cell? w _ h.1)).trans h.1, (q.cell (World.block_lt_of_cell? w _ h.2.1)).trans h.2.1, (q.cell (World.block_lt_of_cell? w _ h.2.2)).trans h.2.2⟩
theorem tree_D {t : List Br} (h : Tree t) {i : Nat} (hi : i < t.length) : 0 ≤ D t i ∧ D t i ≤ 511 := by
  have := gd_bound t.length (tree_gd.1 h).2 i hi
  have := h.len
  omega
set_option maxRecDepth 100000 in
set_option maxHeartbeats 2000000 in
theorem rIns_any (ao : Option Addr) (n cap : Nat) (t : List Br) (f k : P) (w : World) (hs : n ≤ 1000) (HH : Hid (HasB w ao n cap t)) :
    Calls Try.prog 34 #[.slice ao n cap, (.agg #[.int .i64 f.1, .int .i64 f.2]), (.agg #[.int .i64 k.1, .int .i64 k.2])] w fun e w' => ∃ xo xn xc, e = .returned (.tuple #[.slice xo xn xc, .int .i64 (inE t f k)]) ∧ HasB w' xo xn xc (inA t f k) ∧ Below w.heap.size w w' := by
  have HN := hid HH.out.len
  have HSame : Hid (∀ W : World, Below w.heap.size w W → inE t f k ≠ 0 → HasB W ao n cap (inA t f k)) := fun W hW h => by
    have : inA t f k = t := by unfold inA; rw [if_neg h]
    rw [this]
    exact HH.out.below hW
  go_enter Try.func34, Try.ntmps34
  go_wp2_with fail
  have B0 := hid (q_alloc (alloc_below w (.cells #[.int .i64 f.1, .int .i64 f.2] 24)) (.cells #[.int .i64 k.1, .int .i64 k.2] 24))
  have F0 := hid (at_two0 w f k 24)
  have K0 := hid (at_new2 w f k 24)
  generalize (w.alloc (.cells #[.int .i64 f.1, .int .i64 f.2] 24)).alloc (.cells #[.int .i64 k.1, .int .i64 k.2] 24) = W0 at B0 F0 K0 ⊢
  refine (rfind_any ao n cap t f W0 (by omega) (HH.out.below B0.out)).mono ?_
  rintro e w1 ⟨rfl, b1⟩
  have B1 := hid (q_trans B0.out b1)
  have F1 := hid (F0.out.below b1)
  have K1 := hid (K0.out.below b1)
  clear b1 B0 F0 K0
  obtain ⟨k0, k1⟩ := K1.out
  go_wp2_with fail
  refine (rfind_any ao n cap t k w1 (by omega) (HH.out.below B1.out)).mono ?_
  rintro e w2 ⟨rfl, b2⟩
  have B2 := hid (q_trans B1.out b2)
  have F2 := hid (F1.out.below b2)
  have K2 := hid (K1.out.below b2)
  clear b2 B1 F1 K1 k0 k1
  go_wp2_with fail
  refine (ris_any ao n cap t w2 (HH.out.below B2.out)).mono ?_
  rintro e w3 ⟨rfl, b3⟩
  have B3 := hid (q_trans B2.out b3)
  have F3 := hid (F2.out.below b3)
  have K3 := hid (K2.out.below b3)
  clear b3 B2 F2 K2
  cases h1 : isB t with
  | false =>
    have HE : Hid (inE t f k = 2) := by unfold Hid inE; rw [h1]; rfl
    clear h1
    go_wp2_with fail
    refine bodyPost_ret (v := .tuple #[.slice ao n cap, .int .i64 2]) (by simp [results, Try.results34, go_sem]) rfl ⟨ao, n, cap, by rw [HE.out], HSame.out _ B3.out (by rw [HE.out]; decide), B3.out⟩
  | true =>
    obtain ⟨f0, f1⟩ := F3.out
    go_wp2_with fail
    refine (ki_any f w3).mono ?_
    rintro e w4 ⟨rfl, b4⟩
    have B4 := hid (q_trans B3.out b4)
    have K4 := hid (K3.out.below b4)
    clear b4 B3 F3 K3 f0 f1
    cases h2 : okK f with
    | false =>
      have HE : Hid (inE t f k = 2) := by unfold Hid inE; rw [h1, h2]; rfl
      clear h1 h2
      go_wp2_with fail
      refine bodyPost_ret (v := .tuple #[.slice ao n cap, .int .i64 2]) (by simp [results, Try.results34, go_sem]) rfl ⟨ao, n, cap, by rw [HE.out], HSame.out _ B4.out (by rw [HE.out]; decide), B4.out⟩
    | true =>
      obtain ⟨k0, k1⟩ := K4.out
      go_wp2_with fail
      refine (ki_any k w4).mono ?_
      rintro e w5 ⟨rfl, b5⟩
      have B5 := hid (q_trans B4.out b5)
      have K5 := hid (K4.out.below b5)
      clear b5 B4 K4 k0 k1
      cases h3 : okK k with
      | false =>
        have HE : Hid (inE t f k = 2) := by unfold Hid inE; rw [h1, h2, h3]; rfl
        clear h1 h2 h3
        go_wp2_with fail
        refine bodyPost_ret (v := .tuple #[.slice ao n cap, .int .i64 2]) (by simp [results, Try.results34, go_sem]) rfl ⟨ao, n, cap, by rw [HE.out], HSame.out _ B5.out (by rw [HE.out]; decide), B5.out⟩
      | true =>
        cases h4 : hasK t f with
        | false =>
          have HE : Hid (inE t f k = 7) := by unfold Hid inE; rw [h1, h2, h3, h4]; rfl
          clear h1 h2 h3 h4
          go_wp2_with fail
          refine bodyPost_ret (v := .tuple #[.slice ao n cap, .int .i64 7]) (by simp [results, Try.results34, go_sem]) rfl ⟨ao, n, cap, by rw [HE.out], HSame.out _ B5.out (by rw [HE.out]; decide), B5.out⟩
        | true =>
          cases h5 : hasK t k with
          | true =>
            have HE : Hid (inE t f k = 8) := by unfold Hid inE; rw [h1, h2, h3, h4, h5]; rfl
            clear h1 h2 h3 h4 h5
            go_wp2_with fail
            refine bodyPost_ret (v := .tuple #[.slice ao n cap, .int .i64 8]) (by simp [results, Try.results34, go_sem]) rfl ⟨ao, n, cap, by rw [HE.out], HSame.out _ B5.out (by rw [HE.out]; decide), B5.out⟩
          | false =>
            by_cases h6 : 512 ≤ n
            · have HE : Hid (inE t f k = 6) := by unfold Hid inE; rw [h1, h2, h3, h4, h5, if_pos (by have := HN.out; omega : 512 ≤ t.length)]; rfl
              have i4 : (512 : Int) ≤ (n : Int) := by omega
              clear h1 h2 h3 h4 h5 h6
              go_wp2_with fail
              refine bodyPost_ret (v := .tuple #[.slice ao n cap, .int .i64 6]) (by simp [results, Try.results34, go_sem]) rfl ⟨ao, n, cap, by rw [HE.out], HSame.out _ B5.out (by rw [HE.out]; decide), B5.out⟩
            · have e : inE t f k = 0 := by unfold inE; rw [h1, h2, h3, h4, h5, if_neg (by have := HN.out; omega : ¬ 512 ≤ t.length)]; rfl
              obtain ⟨i, hok, hA⟩ := in_ok e
              have hfd := hok.at'
              have hil := (fd_some.1 hfd).1
              have hD := tree_D hok.tree hil
              have HE : Hid (inE t f k = 0 ∧ inA t f k = ins t (i + 1) (k, D t i + 1, false)) := ⟨e, hA⟩
              rw [plc_of hfd]
              have hin : i < n := by have := HN.out; omega
              have i3 : (i : Int) < (n : Int) := by omega
              have i4 : ¬ (512 : Int) ≤ (n : Int) := by omega
              obtain ⟨a, rfl, ca⟩ := (HH.out.below B5.out).at i hin
              obtain ⟨x, hx⟩ : ∃ b, D t i = b := ⟨_, rfl⟩
              rw [hx] at hD HE
              have c2 := ca.c2
              rw [show (t.getD i zB).2.1 = x from hx] at c2
              obtain ⟨hD1, hD2⟩ := hD
              clear h1 h2 h3 h4 h5 h6 e hok hA hfd hil hx ca
              obtain ⟨k0, k1⟩ := K5.out
              go_wp2_with fail
              obtain ⟨p, hp⟩ : ∃ p, p = i + 1 := ⟨_, rfl⟩
              have HPp := hid hp
              obtain ⟨y, hy⟩ : ∃ y : Int, x + 1 = y := ⟨_, rfl⟩
              have HYy := hid hy
              have hwr : ((i : Int) + 1 + 9223372036854775808) % 18446744073709551616 - 9223372036854775808 = (p : Int) := by omega
              have hwk : IntKind.i64.wrap ((i : Int) + 1) = (p : Int) := by rw [IntKind.wrap_i64]; exact hwr
              have hwy : (x + 1 + 9223372036854775808) % 18446744073709551616 - 9223372036854775808 = y := by omega
              have hwz : IntKind.i64.wrap (x + 1) = y := by rw [IntKind.wrap_i64]; exact hwy
              have HPt : Hid (∀ W : World, Below w.heap.size w W → Calls Try.prog 54 #[.slice (some a) n cap, .int .i64 p, .agg #[.int .i64 k.1, .int .i64 k.2, .int .i64 y, .bool false]] W fun e w' => ∃ xo xc, e = .returned (.slice xo (n + 1) xc) ∧ HasB w' xo (n + 1) xc (ins t p (k, y, false)) ∧ Below W.heap.size W w') := fun W hW => rput_any (some a) n cap p t (k, y, false) W (by have := HPp.out; omega) hs (HH.out.below hW)
              have hS : SI (w.heap.size + 1) k (a.add (i * 4)) x w5 := ⟨k0, k1, c2⟩
              clear hp hy k0 k1 c2
              go_region_held3 (SI (w.heap.size + 1) k (a.add (i * 4)) x) (first | with_reducible assumption | with_reducible exact si_drew hS | exact si_keep hS b8 | go_keep)
                (first
                  | (go_at_call 54; refine (HPt.out _ (by first | exact B5.out | exact B5.out.drew)).mono ?_; rintro e w6 ⟨xo, xc, rfl, h6, b6⟩; have b8 : Below w5.heap.size w5 w6 := (by first | exact b6 | exact q_trans (Below.refl _ w5).drew b6))
                  | fail)
              all_goals
                have H6 := hid h6
                have B6 := hid (q_trans B5.out b8)
                clear h6 b6 b8
                go_wp2_with fail
                refine bodyPost_ret (v := .tuple #[.slice xo (n + 1) xc, .int .i64 0]) (by simp [results, Try.results34, go_sem]) rfl ⟨xo, n + 1, xc, by rw [HE.out.1], by rw [HE.out.2, ← HPp.out, HYy.out]; exact H6.out, B6.out⟩
end Go.Proofs.Ytdaakigofpehjaa.Tr

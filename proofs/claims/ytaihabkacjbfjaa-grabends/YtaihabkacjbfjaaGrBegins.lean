/- What begins does: all who begin. -/
import Derived.Test.YtaihabkacjbfjaaGrGrs
import Derived.Test.YtaihabkacjbfjaaGrLay
import Derived.Test.YtaihabkacjbfjaaGrW1
import Derived.Test.YtaihabkacjbfjaaGrIns
namespace Go.Proofs.Ytaihabkacjbfjaa.Gr
open Go.RowKit Go.Proofs.Ytaihabkacjbfjaa.Ce

theorem HasW.below {w w' : World} {ao : Option Addr} {n : Nat} {ws : List (Bool × List Int)} (h : HasW w ao n ws) (hb : Below w.heap.size w w') : HasW w' ao n ws := by
  refine ⟨h.len, fun i hi => ?_⟩
  obtain ⟨a, e, h1, xo, m, c, h2, h3, h4⟩ := h.at_ i hi
  exact ⟨a, e, (hb.cell (World.block_lt_of_cell? w _ h1)).trans h1, xo, m, c, (hb.cell (World.block_lt_of_cell? w _ h2)).trans h2, h3, h4.below hb⟩
theorem field_at {w : World} {a : Addr} {i : Nat} {u : Value} (h1 : w.cell? (a.add (i + 1)) = some u) : w.cell? ⟨(a.add i).block, (a.add i).off + 1, none⟩ = some u := by
  have e : (⟨(a.add i).block, (a.add i).off + 1, none⟩ : Addr) = (a.add i).add 1 := by simp [Addr.add]
  rw [e, add_add]
  exact h1
/-- What is asked of who takes what. -/
def okW (x : Bool × List Int) : Prop := x.2.length ≤ 10 ∧ ∀ c, c ∈ x.2 → 0 ≤ c ∧ c < 8
theorem startE_ok {i : Nat} {x : Bool × List Int} (h : okW x) : startE ((i : Int) + 1) x.2 = 0 := by
  unfold startE
  rw [if_neg, if_neg]
  · have := h.1; omega
  · rintro (e | ⟨c, hc, e⟩)
    · omega
    · have := h.2 c hc; omega
/-- Who begins, in their order. -/
def begG (ws : List (Bool × List Int)) (i : Nat) : G := startG ((i : Int) + 1) (ws.getD i (false, [])).1 (ws.getD i (false, [])).2
/-- Grabs that lie one behind the other. -/
structure Grs (w W : World) (go : Option Addr) (gcap : Nat) (xs : List Gh) : Prop where
  row : W.ownsRow w.heap.size 25 6 (.slice go xs.length gcap) xs.length (grs xs)
  has : ∀ i, i < xs.length → Has W (xs.getD i Gh.zero).ao (xs.getD i Gh.zero).g.cs.length (xs.getD i Gh.zero).cap (xs.getD i Gh.zero).g.cs
  offG : ∀ i, i < xs.length → Off (fun k => ∃ a, go = some a ∧ a.block = k) (xs.getD i Gh.zero).ao (vals (xs.getD i Gh.zero).g.cs)
  low : Below w.heap.size w W
theorem Grs.below {w W W' : World} {go : Option Addr} {gcap : Nat} {xs : List Gh} (h : Grs w W go gcap xs) (hb : Below W.heap.size W W') : Grs w W' go gcap xs :=
  ⟨own_below h.row hb, fun i hi => (h.has i hi).below hb, h.offG, q_trans h.low hb⟩
theorem grs_nil (w : World) : Grs w w none 0 [] := ⟨World.ownsRow_nil _ _ _ _, fun i hi => absurd hi (by simp), fun i hi => absurd hi (by simp), Below.refl _ _⟩
/-- One more is laid behind them. -/
theorem Grs.snoc {w W W' W2 : World} {go go' : Option Addr} {gcap gcap' : Nat} {xs : List Gh} {x : Gh} (h : Grs w W go gcap xs) (hb : Below W.heap.size W W2) (hm : Mine W2 W.heap.size x.ao x.g.cs.length x.cap x.g.cs)
    (own : W'.ownsRow w.heap.size 25 6 (.slice go' (xs.length + 1) gcap') (xs.length + 1) (grs xs ++ gC x)) (grow : W2.grownBy W' (Value.ownBlock (.slice go xs.length gcap))) (hat : ∀ a, go' = some a → (∃ b, go = some b ∧ b.block = a.block) ∨ W2.heap.size ≤ a.block) :
    Grs w W' go' gcap' (xs ++ [x]) := by
  have h2 := h.below hb
  have k := kept_grown grow
  have gd : ∀ i, i < xs.length → (xs ++ [x]).getD i Gh.zero = xs.getD i Gh.zero := fun i hi => by simp [List.getD, List.getElem?_append_left hi]
  have gx : (xs ++ [x]).getD xs.length Gh.zero = x := by simp [List.getD]
  have offOld : ∀ {ao : Option Addr} {cs : List Value}, Off (fun k => ∃ a, go = some a ∧ a.block = k) ao cs → Off (fun k => some k = Value.ownBlock (.slice go xs.length gcap)) ao cs := by
    intro ao cs ho h0 a e e2
    cases go with
    | none => cases e2
    | some b => exact ho h0 a e ⟨b, rfl, (Option.some.inj e2).symm⟩
  have xo : Off (fun k => ∃ a, go = some a ∧ a.block = k) x.ao (vals x.g.cs) := by
    intro h0 a e
    rintro ⟨b, e2, e3⟩
    have h3 := hm.new a e
    have := ((own_row h.row).2.2.2 b e2).2
    omega
  have offNew : ∀ {ao : Option Addr} {n cap : Nat} {l : List Int}, Has W2 ao n cap l → Off (fun k => ∃ a, go = some a ∧ a.block = k) ao (vals l) → Off (fun k => ∃ a, go' = some a ∧ a.block = k) ao (vals l) := by
    intro ao n cap l hh ho h0 a e
    rintro ⟨b, e2, e3⟩
    rcases hat b e2 with ⟨c, e4, e5⟩ | h4
    · exact ho h0 a e ⟨c, e4, by omega⟩
    · obtain ⟨y, e5, hy⟩ := hh.row.lt h0
      rw [e] at e5
      cases e5
      omega
  refine ⟨by rw [List.length_append, List.length_singleton, grs_snoc]; exact own, fun i hi => ?_, fun i hi => ?_, ?_⟩
  · rw [List.length_append, List.length_singleton] at hi
    by_cases e : i < xs.length
    · rw [gd i e]
      exact (h2.has i e).kept k (offOld (h.offG i e))
    · obtain rfl : i = xs.length := by omega
      rw [gx]
      exact hm.has.kept k (offOld xo)
  · rw [List.length_append, List.length_singleton] at hi
    by_cases e : i < xs.length
    · rw [gd i e]
      exact offNew (h2.has i e) (h.offG i e)
    · obtain rfl : i = xs.length := by omega
      rw [gx]
      exact offNew hm.has xo
  · exact h2.low.trans (k.below w.heap.size h2.low.size (fun i e => by
      cases go with
      | none => cases e
      | some b => rw [Option.some.inj e]; exact ((own_row h.row).2.2.2 b rfl).1))
theorem infoG : (Try.prog.info? 25).map (fun i => (i.zero, i.size, i.bytes)) = some (some (.agg #[.int .i64 0, .slice none 0 0, .int .i64 0, .int .i64 0, .int .i64 0, .bool false]), 6, 64) := by kernel_rfl
theorem one_grab (w : World) (x : Gh) (T : TypeId) : Row (w.alloc (.cells (gC x).toArray T)) (some ⟨w.heap.size, 0, none⟩) (gC x) := by
  refine ⟨fun j u hu => ⟨_, rfl, ?_⟩⟩
  match j, hu with
  | 0, hu => simp [gC] at hu; subst hu; simp [Addr.add, gC]
  | 1, hu => simp [gC] at hu; subst hu; simp [Addr.add, gC]
  | 2, hu => simp [gC] at hu; subst hu; simp [Addr.add, gC]
  | 3, hu => simp [gC] at hu; subst hu; simp [Addr.add, gC]
  | 4, hu => simp [gC] at hu; subst hu; simp [Addr.add, gC]
  | 5, hu => simp [gC] at hu; subst hu; simp [Addr.add, gC]
  | j + 6, hu => simp [gC] at hu
theorem two_grab (w : World) (A : Obj) (x : Gh) (q : Nat) (u : Value) (hu : (gC x)[q]? = some u) :
    ((w.alloc A).alloc (.cells #[.int .i64 x.g.w, .slice x.ao x.g.cs.length x.cap, .int .i64 x.g.p, .int .i64 x.g.a, .int .i64 x.g.t, .bool x.g.b] 25)).cell? ((⟨w.heap.size + 1, 0, none⟩ : Addr).add q) = some u := by
  obtain ⟨a, e, h⟩ := (one_grab (w.alloc A) x 25).cell q u hu
  cases e
  rw [show (w.alloc A).heap.size = w.heap.size + 1 by simp] at h
  exact h
set_option maxRecDepth 100000 in
set_option maxHeartbeats 4000000 in
/-- ALL WHO BEGIN, OR NOTHING IS ASKED. -/
theorem begins_any (ao : Option Addr) (n cap : Nat) (ws : List (Bool × List Int)) (w : World) (hn : n ≤ 9223372036854775807) (HW : Hid (HasW w ao n ws)) :
    Calls Try.prog 23 #[.slice ao n cap] w fun e w' => (e = .returned (.tuple #[.slice none 0 0, .bool false]) ∧ Below w.heap.size w w') ∨
      (n ≤ 6 ∧ ∃ go gcap xs, e = .returned (.tuple #[.slice go n gcap, .bool true]) ∧ Grs w w' go gcap xs ∧ xs.length = n ∧ ∀ j, j < n → okW (ws.getD j (false, [])) ∧ (xs.getD j Gh.zero).g = begG ws j) := by
  by_cases h6 : 6 < n
  · go_enter Try.func23, Try.ntmps23
    go_wp2
    go_ret2
    exact .inl ⟨rfl, Below.refl _ _⟩
  · have h6' : n ≤ 6 := by omega
    go_enter Try.func23, Try.ntmps23
    go_wp2
    go_loopw [4, 5] (fun sg i wr => ∃ (j gcap : Nat) (go : Option Addr) (xs : List Gh), j ≤ n ∧ i = .int .i64 j ∧ sg = .slice go j gcap ∧ Hid (Grs w wr go gcap xs) ∧ Hid (xs.length = j) ∧ Hid (∀ q, q < j → okW (ws.getD q (false, [])) ∧ (xs.getD q Gh.zero).g = begG ws q)) (fun _ i _ => n - (intOf i).toNat)
    case atStart => exact ⟨0, 0, none, [], Nat.zero_le _, rfl, rfl, grs_nil w, rfl, fun q hq => absurd hq (by omega)⟩
    case round =>
      obtain ⟨j, gcap, go, xs, hj, rfl, rfl, HG, HL, HA⟩ := hrel
      by_cases hlt : j < n
      · have i1 : (0 : Int) ≤ (j : Int) := by omega
        have i2 : (j : Int) < (n : Int) := by omega
        obtain ⟨a, e, cb, xo, m, c, cs, hm, hh⟩ := (HW.out.below HG.out.low).at_ j hlt
        subst e
        have HH := hid hh
        have cs := field_at cs
        have HCB := hid cb
        have HCS := hid cs
        obtain ⟨b, hb⟩ : ∃ b, (ws.getD j (false, [])).1 = b := ⟨_, rfl⟩
        obtain ⟨l, hl⟩ : ∃ l, (ws.getD j (false, [])).2 = l := ⟨_, rfl⟩
        rw [hb] at cb HCB
        rw [hl] at HH
        have HBL := hid (And.intro hb hl)
        clear hh hb hl
        by_cases h10 : 10 < m
        · go_wp2
          go_ret2
          exact .inl ⟨rfl, HG.out.low⟩
        · have hm10 : m ≤ 10 := by omega
          go_wp2
          clear cb cs
          obtain ⟨W0, hW0⟩ : ∃ W0, W0 = wr := ⟨_, rfl⟩
          subst hW0
          go_loopw [6, 7] (fun sc i WQ => ∃ (k ccap : Nat) (co : Option Addr), k ≤ m ∧ i = .int .i64 k ∧ sc = .slice co k ccap ∧ Hid (WQ.ownsRow W0.heap.size 3 1 (.slice co k ccap) k (vals (l.take k))) ∧ Hid (Below W0.heap.size W0 WQ) ∧ Hid (∀ q, q < k → 0 ≤ l.getD q 0 ∧ l.getD q 0 < 8)) (fun _ i _ => m - (intOf i).toNat)
          case atStart => exact ⟨0, 0, none, Nat.zero_le _, rfl, rfl, World.ownsRow_nil _ _ _ _, Below.refl _ _, fun q hq => absurd hq (by omega)⟩
          case round =>
            obtain ⟨k, ccap, co, hk, rfl, rfl, HO, HB, HQ⟩ := hrel
            have cs := (HB.out.cell (World.block_lt_of_cell? W0 _ HCS.out)).trans HCS.out
            by_cases hkm : k < m
            · have k1 : (0 : Int) ≤ (k : Int) := by omega
              have k2 : (k : Int) < (m : Int) := by omega
              obtain ⟨y, e, cx⟩ := (HH.out.below HB.out).cell k hkm
              subst e
              obtain ⟨x, hx⟩ : ∃ x, l.getD k 0 = x := ⟨_, rfl⟩
              rw [hx] at cx
              have HX := hid hx
              clear hx
              by_cases hx0 : x < 0
              · go_wp2
                go_ret2
                exact .inl ⟨rfl, q_trans HG.out.low HB.out⟩
              · by_cases hx8 : 8 ≤ x
                · go_wp2
                  go_ret2
                  exact .inl ⟨rfl, q_trans HG.out.low HB.out⟩
                · have HX8 := hid (show 0 ≤ x ∧ x < 8 by omega)
                  have HKL := hid (show k < l.length by have := HH.out.len; omega)
                  go_wp2_with (at_builtin; go_loud (refine wpList_append_row _ rfl (.tmp 56) (.tmp 65) 22 3 _ 1 8 rfl Try.underlying22 infoN rfl (by decide) (by decide) W0.heap.size _ k (vals (l.take k)) rfl (HO.out.alloc _) (some ⟨_, 0, none⟩) 1 1 (vals [x]) rfl rfl (fun h => by cases h) (one_val _ x 3) (vals_one _) (by omega) (q_alloc HB.out _).size ?_; intro co1 cc1 w3 own3 grow3; apply Hid.out))
                  have HO3 : Hid (w3.ownsRow W0.heap.size 3 1 (.slice co1 (k + 1) cc1) (k + 1) (vals (l.take (k + 1)))) := by
                    have := own3
                    rw [show vals (l.take (k + 1)) = vals (l.take k) ++ vals [x] by rw [take_snocI l k HKL.out, HX.out]; simp]
                    exact this
                  have HB3 := hid ((q_alloc HB.out _).grown grow3 (q_alloc HB.out _).size (fun i e => (HO.out.lt i e).1))
                  clear own3 grow3 cx cs
                  unfold Hid
                  go_wp2_with fail
                  go_roundw
                  case rel =>
                    refine ⟨k + 1, cc1, co1, by omega, by go_num, rfl, HO3, HB3, fun q hq => ?_⟩
                    by_cases e : q = k
                    · subst e; rw [HX.out]; exact HX8.out
                    · exact HQ.out q (by omega)
                  case measure => simp [intOf]; omega
            · obtain rfl : k = m := by omega
              have HTL : Hid (l.take k = l) := List.take_of_length_le (by have := HH.out.len; omega)
              have HOK : Hid (okW (ws.getD j (false, []))) := by
                refine ⟨by rw [HBL.out.2, ← HH.out.len]; exact hm10, fun c hc => ?_⟩
                rw [HBL.out.2] at hc
                obtain ⟨q, hq, rfl⟩ := List.getElem_of_mem hc
                have := HQ.out q (by rw [HH.out.len]; exact hq)
                simpa [List.getD, hq] using this
              have HM : Hid (Mine wr W0.heap.size co k ccap l) := by
                have := own_mine HO.out
                rwa [HTL.out] at this
              have CS := hid (fun W' H => start_any ((j : Int) + 1) b co k ccap l W' H (by omega))
              have HE : startE ((j : Int) + 1) l = 0 := by have := startE_ok (i := j) HOK.out; rwa [HBL.out.2] at this
              rw [HE] at CS
              have HGJ : Hid (begG ws j = startG ((j : Int) + 1) b l) := by unfold begG; rw [HBL.out.1, HBL.out.2]; exact rfl
              generalize startG ((j : Int) + 1) b l = g at CS HGJ
              have cb := (HB.out.cell (World.block_lt_of_cell? W0 _ HCB.out)).trans HCB.out
              clear HE
              go_wp2_with fail
              refine (CS.out _ HM.out.has).mono ?_
              rintro e w4 ⟨ao4, cap4, rfl, m4, b4⟩
              have HM4 := hid m4
              have HB4 := hid (q_trans HB.out b4)
              have HSZ := hid HB.out.size
              clear m4 b4 cs cb CS HM HO
              obtain ⟨i0, hi, hz0, hz1, hz2⟩ := info_of infoG
              have HI := hid hi
              have HZ0 := hid hz0
              have HZ1 := hid hz1
              have HZ2 := hid hz2
              have HR0 : Hid (W0.ownsRow w.heap.size 25 6 (.slice go j gcap) j (grs xs)) := by have := HG.out.row; rwa [HL.out] at this
              have HWS := hid HG.out.low.size
              clear hi hz0 hz1 hz2
              go_wp2_with (at_builtin; go_loud (refine wpList_append_lies _ rfl (.tmp 79) (.tmp 81) 44 rfl w.heap.size 25 i0 _ 6 64 Try.underlying44 HI.out HZ0.out HZ1.out HZ2.out rfl (by decide) (.slice go j gcap) j (grs xs) rfl (((own_below HR0.out HB4.out).alloc _).alloc _) ⟨_, 0, none⟩ 1 1 (gC ⟨g, ao4, cap4⟩) rfl rfl (two_grab w4 _ ⟨g, ao4, cap4⟩) (gC_one _) (by decide) (by unfold maxLen; omega) (by omega) (by have := HWS.out; have := (q_alloc (q_alloc HB4.out (.cells #[] 0)) (.cells #[] 0)).size; simp at this ⊢; omega) _ rfl ?_; intro g1 cap1 w5 own5 grow5 hat5 hlt5; apply Hid.out))
              have HG5 := hid (Grs.snoc (x := ⟨g, ao4, cap4⟩) HG.out (q_alloc (q_alloc HB4.out _) _) (((HM4.out.base HSZ.out).below (alloc_below _ _)).below (alloc_below _ _)) (go' := some ⟨g1, 0, none⟩) (gcap' := cap1) (by rw [HL.out]; exact own5) (by rw [HL.out]; exact grow5) (fun a' e => by
                cases e
                rcases hat5 with e2 | e2
                · refine .inl ?_
                  cases go with
                  | none => cases e2
                  | some z => exact ⟨z, rfl, Option.some.inj e2⟩
                · exact .inr (Nat.le_of_eq e2.symm)))
              clear own5 grow5 hat5 hlt5
              unfold Hid
              go_wp2_with fail
              go_roundw
              case rel =>
                refine ⟨j + 1, cap1, some ⟨g1, 0, none⟩, xs ++ [⟨g, ao4, cap4⟩], by omega, by go_num, rfl, HG5, by rw [List.length_append, HL.out]; exact rfl, fun q hq => ?_⟩
                by_cases e : q = j
                · subst e
                  refine ⟨HOK.out, ?_⟩
                  rw [HGJ.out]
                  simp [List.getD, ← HL.out]
                · have := HA.out q (by omega)
                  have hq' : q < xs.length := by rw [HL.out]; omega
                  have e2 : (xs ++ [(⟨g, ao4, cap4⟩ : Gh)]).getD q Gh.zero = xs.getD q Gh.zero := by simp [List.getD, List.getElem?_append_left hq']
                  rw [e2]
                  exact this
              case measure => simp [intOf]; omega
      · obtain rfl : j = n := by omega
        go_wp2
        go_ret2
        exact .inr ⟨h6', go, gcap, xs, rfl, HG.out, HL.out, HA.out⟩
end Go.Proofs.Ytaihabkacjbfjaa.Gr

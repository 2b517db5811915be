/- What the document's Add (of ghosts) does, whatever befalls. -/
import Derived.Test.YtcldnacpddebcaaGhRAdd3
import Derived.Test.YtcldnacpddebcaaGhRAdd4
import Derived.Test.YtcldnacpddebcaaGhRAdd6
namespace Go.Proofs.Ytcldnacpddebcaa.Gh
open Go.RowKit
open Go.Proofs.Ytcldnacpddebcaa.Tr

theorem bool_or (b : Bool) : b = true ∨ b = false := by cases b <;> simp
/-- THE DOCUMENT'S ADD. -/
theorem radd_any (y : Gv) (g : Gt) (z : Bi) (w : World) (HY : HasG w y g) :
    Calls Try.prog 12 #[(.agg #[.slice y.k.o y.k.n y.k.c, .slice y.i.o y.i.n y.i.c, .slice y.f.o y.f.n y.f.c]), (.agg #[.int .i64 z.kind, .int .i64 z.key.1, .int .i64 z.key.2, .int .i64 z.fm.1, .int .i64 z.fm.2])] w fun e w' => ∃ x : Gv, e = .returned (.tuple #[(.agg #[.slice x.k.o x.k.n x.k.c, .slice x.i.o x.i.n x.i.c, .slice x.f.o x.f.n x.f.c]), .int .i64 (adE g z)]) ∧ HasG w' x (adA g z) ∧ Below w.heap.size w w' := by
  obtain ⟨kd, key, fm⟩ := z
  rcases bool_or (okB g) with ho | ho
  · by_cases h1 : kd < 1
    · exact radd_low y g kd key fm w ho h1 HY
    · by_cases h4 : 4 < kd
      · exact radd_high y g kd key fm w ho h4 HY
      · have hk : kd = 1 ∨ kd = 2 ∨ kd = 3 ∨ kd = 4 := by omega
        rcases hk with rfl | rfl | rfl | rfl
        · rcases bool_or (okK key) with hk | hk
          · cases hi : fk key g.ks with
            | some i => exact radd_there1 y g key fm w ho hk i hi HY
            | none =>
              by_cases hm : g.fr.length < 4096
              · exact radd_born1 y g key fm w ho hk hi hm HY
              · exact radd_many1 y g key fm w ho hk hi (by omega) HY
          · exact radd_key1 y g key fm w ho hk HY
        · rcases bool_or (okK key) with hk | hk
          · rcases bool_or (okK fm) with hf | hf
            · cases hj : fk fm g.ks with
              | none => exact radd_none2 y g key fm w ho hk hf hj HY
              | some j =>
                cases hi : fk key g.ks with
                | some i => exact radd_there2 y g key fm w ho hk hf i hi j hj HY
                | none =>
                  by_cases hm : g.fr.length < 4096
                  · exact radd_born2 y g key fm w ho hk hf hi j hj hm HY
                  · exact radd_many2 y g key fm w ho hk hf hi j hj (by omega) HY
            · exact radd_fm2 y g key fm w ho hk hf HY
          · exact radd_key2 y g key fm w ho hk HY
        · rcases bool_or (okK key) with hk | hk
          · rcases bool_or (okK fm) with hf | hf
            · cases hj : fk fm g.ks with
              | none => exact radd_none3 y g key fm w ho hk hf hj HY
              | some j =>
                cases hi : fk key g.ks with
                | some i => exact radd_there3 y g key fm w ho hk hf i hi j hj HY
                | none => exact radd_move y g key fm w ho hk hf hi j hj HY
            · exact radd_fm3 y g key fm w ho hk hf HY
          · exact radd_key3 y g key fm w ho hk HY
        · rcases bool_or (okK key) with hk | hk
          · cases hi : fk key g.ks with
            | some i => exact radd_die y g key fm w ho hk i hi HY
            | none => exact radd_none4 y g key fm w ho hk hi HY
          · exact radd_key4 y g key fm w ho hk HY
  · exact radd_bad y g kd key fm w ho (bool_or _) (bool_or _) HY
end Go.Proofs.Ytcldnacpddebcaa.Gh

/- What model does. -/
import Derived.Test.YtpcdjpcdmnjdfaaPoModela
import Derived.Test.YtpcdjpcdmnjdfaaPoModelb
import Derived.Test.YtpcdjpcdmnjdfaaPoModelc
import Derived.Test.YtpcdjpcdmnjdfaaPoModeld
namespace Go.Proofs.Ytpcdjpcdmnjdfaa.Po
open Go.RowKit

theorem model_any (p : Pt) (y : Hd) (a : Ac) (w : World) (hs : y.n ≤ 4999) (HH : HasQ w y p.l) :
    Calls Try.prog 11 #[(.agg #[.int .i64 p.k, .int .i64 p.w, .slice y.o y.n y.c]), (.agg #[.int .i64 a.kind, .int .i64 a.x.c, .int .i64 a.x.v, .int .i64 a.x.b, .bool a.x.h, .int .i64 a.x.o, .int .i64 a.x.s, .int .i64 a.x.g, .bool a.x.t, .int .i64 a.n])] w fun e w' => ∃ z : Hd, e = .returned (.tuple #[(.agg #[.int .i64 (doP p a).k, .int .i64 (doP p a).w, .slice z.o z.n z.c]), (.agg #[.int .i64 (doX p a).c, .int .i64 (doX p a).v, .int .i64 (doX p a).b, .bool (doX p a).h, .int .i64 (doX p a).o, .int .i64 (doX p a).s, .int .i64 (doX p a).g, .bool (doX p a).t]), .bool (doB p a), .int .i64 (doN p a), .int .i64 (doE p a)]) ∧ AnsR w w' y p.l z (doP p a).l := by
  by_cases h0 : a.kind = 0
  · exact model0 p y a w hs h0 HH
  · by_cases h1 : a.kind = 1
    · exact model1 p y a w hs h1 HH
    · by_cases h2 : a.kind = 2
      · exact model2 p y a w hs h2 HH
      · by_cases h3 : a.kind = 3
        · exact model3 p y a w hs h3 HH
        · exact model4 p y a w hs h0 h1 h2 h3 HH
end Go.Proofs.Ytpcdjpcdmnjdfaa.Po

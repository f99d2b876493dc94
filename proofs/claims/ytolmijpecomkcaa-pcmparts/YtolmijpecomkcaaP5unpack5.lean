/- Own text: the walk of the document's Unpack. -/
import Derived.Test.YtolmijpecomkcaaP5unpack4
namespace Go.Proofs.Ytolmijpecomkcaa
open Go.RowKit
set_option linter.unusedSimpArgs false
set_option linter.unusedVariables false

/-- The document's Unpack. -/
theorem runpack_spec (s : ByteArray) (rate ch wd : Int) (big uns : Bool) (w : World) (hs : s.size ≤ 1000000000000000000) :
    Calls Try.prog 16 #[.string s, .int .i64 rate, .int .i64 ch, .int .i64 wd, .agg #[.bool big, .bool uns]] w fun e w' => Gives w (unpP s rate ch wd big uns) (unpE s rate ch wd big uns) e w' := by
  cases hh : uheadB rate ch wd
  · exact runpack_head s rate ch wd big uns w hh
  · by_cases hm : s.size % (nby wd * ch.toNat) = 0
    · by_cases h5 : 1048576 < s.size / (nby wd * ch.toNat)
      · exact runpack_five s rate ch wd big uns w hs hh hm h5
      · obtain ⟨C, rfl⟩ : ∃ C : Nat, ch = (C : Int) := ⟨ch.toNat, by have := uhead_parts hh; omega⟩
        rw [Int.toNat_natCast] at hm h5
        cases big <;> cases uns
        · exact runpack_false_false s rate wd C w hs hh hm (by omega)
        · exact runpack_true_false s rate wd C w hs hh hm (by omega)
        · exact runpack_false_true s rate wd C w hs hh hm (by omega)
        · exact runpack_true_true s rate wd C w hs hh hm (by omega)
    · exact runpack_two s rate ch wd big uns w hs hh hm

end Go.Proofs.Ytolmijpecomkcaa

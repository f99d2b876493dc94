/- Own text: the program answers Unpack as the document does. -/
import Derived.Test.YtolmijpecomkcaaQ5awake
import Derived.Test.YtolmijpecomkcaaQ5args
import Derived.Test.YtolmijpecomkcaaP5unpack5
import Derived.Test.YtolmijpecomkcaaP5back3
import Derived.Laws.IdiomArrays
namespace Go.Proofs.Ytolmijpecomkcaa
open Go.RowKit
set_option linter.unusedSimpArgs false
set_option linter.unusedVariables false

theorem numM_numI (s : ByteArray) (wd : Int) (big uns : Bool) (i : Nat) : numM s wd big uns i = numI s wd big uns i := by
  show decM wd uns (mOf s (nby wd) big i) = decN wd uns (mOf s (nby wd) big i)
  have e : (wd - 1).toNat = wd.toNat - 1 := by omega
  unfold decM decN
  rw [e]
theorem uE_unpE (s : ByteArray) (rate ch wd : Int) (big uns : Bool) : uE s rate ch wd big uns = unpE s rate ch wd big uns := by
  unfold uE unpE
  simp only [numM_numI]
  rfl
theorem uP_unpP (s : ByteArray) (rate ch wd : Int) (big uns : Bool) : uP s rate ch wd big uns = unpP s rate ch wd big uns := by
  unfold uP unpP
  rw [uE_unpE]
  by_cases h : unpE s rate ch wd big uns = 0
  · rw [if_pos h, if_pos h]
    have hh : uheadB rate ch wd = true := by
      cases q : uheadB rate ch wd with
      | true => rfl
      | false => unfold unpE at h; rw [q, if_neg (by decide)] at h; exact absurd h (by decide)
    have hm : s.size % (nby wd * ch.toNat) = 0 := by
      by_cases q : s.size % (nby wd * ch.toNat) = 0
      · exact q
      · unfold unpE at h; rw [hh, if_pos rfl, if_neg q] at h; exact absurd h (by decide)
    have hp : 1 ≤ rate ∧ rate ≤ 655350 ∧ 1 ≤ ch ∧ ch ≤ 8 ∧ 4 ≤ wd ∧ wd ≤ 32 := of_decide_eq_true hh
    have hn := (nby_range wd (by omega) (by omega)).1
    have hc : 0 < ch.toNat := by omega
    have hd : s.size / (nby wd * ch.toNat) * (nby wd * ch.toNat) = s.size := Nat.div_mul_cancel (Nat.dvd_of_mod_eq_zero hm)
    generalize s.size / (nby wd * ch.toNat) = n at *
    have e3 : s.size / nby wd = n * ch.toNat := by rw [← hd, Nat.mul_comm (nby wd), ← Nat.mul_assoc]; exact Nat.mul_div_cancel _ hn
    rw [e3]
    have e4 : uL s wd big uns ch.toNat n = upL s wd big uns ch.toNat (n * ch.toNat) := by
      refine list_ext _ _ [] (by rw [upL_length]; exact matL_length _ _ _) fun k hk => ?_
      have hk2 : k < ch.toNat := by
        have := matL_length ch.toNat n fun k i => numM s wd big uns (i * ch.toNat + k)
        show k < ch.toNat
        rw [← this]
        exact hk
      rw [upL_full s wd big uns ch.toNat n hc k hk2]
      show (matL ch.toNat n fun k i => numM s wd big uns (i * ch.toNat + k)).getD k [] = _
      rw [matL_at _ _ _ k hk2]
      apply List.map_congr_left
      intro i _
      exact numM_numI s wd big uns _
    rw [e4]
  · rw [if_neg h, if_neg h]
    rfl
theorem sameB_refl (p : Pcm) : sameB p p = true := by
  unfold sameB
  simp

section
open Go.ChangeShapes Go.WideShapes Go.ChangeAt Go.RowKit Go.Deep
variable {H : Type} {enc : TypeId × Value → H} {w : World} {base base2 : Nat} {held : Bool}
theorem open_three {r : Reach} {v : Value} {d : DataW H} {q : List MemPlace} (hv : Value.okWide Try.prog w r base2 32 v) (h : DataW.Trod enc Try.prog w base (fun _ => true) held 32 v d q) :
    ∃ a b c : Int, v = .agg #[.int .i64 a, .int .i64 b, .int .i64 c] := by
  simp only [Value.okWide, Try.underlying32] at hv
  obtain ⟨cs, rfl, hs, _⟩ := hv
  obtain ⟨fuel, hf⟩ := h
  have hl : cs.toList.length = 3 := by
    rw [Array.length_toList, hs]
    kernel_rfl
  obtain ⟨l⟩ := cs
  match l, hl with
  | [c0, c1, c2], _ =>
    obtain ⟨y0, y1, y2, m, _, h0, h1, h2⟩ := trod_array3 Try.underlying32 (by kernel_rfl) hf
    obtain ⟨z0, e0, _, _⟩ := DataW.trod_int Try.underlying3 h0
    obtain ⟨z1, e1, _, _⟩ := DataW.trod_int Try.underlying3 h1
    obtain ⟨z2, e2, _, _⟩ := DataW.trod_int Try.underlying3 h2
    injection e0 with e0 _
    injection e1 with e1 _
    injection e2 with e2 _
    subst e0 e1 e2
    exact ⟨z0, z1, z2, rfl⟩
end

end Go.Proofs.Ytolmijpecomkcaa

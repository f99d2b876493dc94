/- Own text: the walk of the document's Unpack, its beginning. -/
import Derived.Test.YtolmijpecomkcaaP5slice
import Derived.Test.YtolmijpecomkcaaP5packs
import Derived.Test.YtolmijpecomkcaaRefbytes
namespace Go.Proofs.Ytolmijpecomkcaa
open Go.RowKit
set_option linter.unusedSimpArgs false
set_option linter.unusedVariables false

/-- The i-th number of a text, w bytes each. -/
def mOf (s : ByteArray) (w : Nat) (big : Bool) (i : Nat) : Nat := val (if big then bytesOf (s.extract (i * w) (i * w + w)) else (bytesOf (s.extract (i * w) (i * w + w))).reverse)
def decN (wd : Int) (uns : Bool) (m : Nat) : Int := if uns then (m : Int) - 2 ^ (wd.toNat - 1) else if 2 ^ (8 * nby wd - 1) ≤ (m : Int) then (m : Int) - 2 ^ (8 * nby wd) else m
def numI (s : ByteArray) (wd : Int) (big uns : Bool) (i : Nat) : Int := decN wd uns (mOf s (nby wd) big i)
/-- The planes behind the first i numbers. -/
def upL (s : ByteArray) (wd : Int) (big uns : Bool) (ch : Nat) : Nat → List (List Int)
  | 0 => List.replicate ch []
  | i + 1 => (upL s wd big uns ch i).set (i % ch) ((upL s wd big uns ch i).getD (i % ch) [] ++ [numI s wd big uns i])
theorem upL_length (s : ByteArray) (wd : Int) (big uns : Bool) (ch : Nat) : ∀ i, (upL s wd big uns ch i).length = ch
  | 0 => by simp [upL]
  | i + 1 => by rw [upL, List.length_set]; exact upL_length s wd big uns ch i
theorem upL_each (s : ByteArray) (wd : Int) (big uns : Bool) (ch : Nat) (hs : ∀ i, i < 10000000 → -9223372036854775808 ≤ numI s wd big uns i ∧ numI s wd big uns i ≤ 9223372036854775807) : ∀ i, i ≤ 10000000 → ∀ k, k < ch → ((upL s wd big uns ch i).getD k []).length ≤ i ∧ ∀ n ∈ (upL s wd big uns ch i).getD k [], -9223372036854775808 ≤ n ∧ n ≤ 9223372036854775807
  | 0, _, k, hk => by
    have e : (upL s wd big uns ch 0).getD k [] = [] := by simp [upL, List.getD_eq_getElem?_getD, hk]
    rw [e]
    exact ⟨Nat.le_refl _, fun n hn => by cases hn⟩
  | i + 1, hi, k, hk => by
    have hl := upL_length s wd big uns ch i
    rw [upL]
    by_cases e : i % ch = k
    · subst e
      rw [getD_set_eq _ _ _ _ (by omega)]
      obtain ⟨h1, h2⟩ := upL_each s wd big uns ch hs i (by omega) (i % ch) hk
      refine ⟨by rw [List.length_append, List.length_singleton]; omega, fun n hn => ?_⟩
      rcases List.mem_append.1 hn with hn | hn
      · exact h2 n hn
      · rw [List.mem_singleton] at hn
        rw [hn]
        exact hs i (by omega)
    · rw [getD_set_ne _ _ _ _ _ e]
      obtain ⟨h1, h2⟩ := upL_each s wd big uns ch hs i (by omega) k hk
      exact ⟨by omega, h2⟩

def uheadB (rate ch wd : Int) : Bool := decide (1 ≤ rate ∧ rate ≤ 655350 ∧ 1 ≤ ch ∧ ch ≤ 8 ∧ 4 ≤ wd ∧ wd ≤ 32)
/-- Unpack's error. -/
def unpE (s : ByteArray) (rate ch wd : Int) (big uns : Bool) : Int :=
  if uheadB rate ch wd then (if s.size % (nby wd * ch.toNat) = 0 then (if 1048576 < s.size / (nby wd * ch.toNat) then 5 else
    (if ∀ i, i < s.size / nby wd → sampB (numI s wd big uns i) wd = true then 0 else 2)) else 2) else 50
def unpP (s : ByteArray) (rate ch wd : Int) (big uns : Bool) : Pcm := if unpE s rate ch wd big uns = 0 then ⟨rate, ch, wd, upL s wd big uns ch.toNat (s.size / nby wd)⟩ else noP

/-- A PCM and an error are handed back, the PCM in new memory. -/
def Gives (w : World) (q : Pcm) (n : Int) (e : Ending) (w' : World) : Prop := ∃ ao' cap', e = .returned (.tuple #[pcmV q ao' cap', .int .i64 n]) ∧ RowsAt w' ao' q.pl ∧ Fresh w.heap.size w' ao' q.pl ∧ Below w.heap.size w w'
/-- The boxes of Unpack. -/
structure Un (w0 : World) (big uns : Bool) (w : World) : Prop where
  lay : w.heap[w0.heap.size]? = some (.cells #[.bool big, .bool uns] 34 (0, 0))
  res : w.heap[w0.heap.size + 1]? = some (.cells zeroP 24 (0, 0))
  below : Below w0.heap.size w0 w
theorem Un.new (w : World) (big uns : Bool) : Un w big uns ((w.alloc (.cells #[.bool big, .bool uns] 34)).alloc (.cells zeroP 24)) := by
  refine ⟨?_, ?_, ((Below.refl w.heap.size w).alloc (Nat.le_refl _) _).alloc (by simp) _⟩
  · rw [Below.heap_alloc _ _ _ (by simp)]
    exact heap_alloc_new _ _
  · have h := heap_alloc_new (w.alloc (.cells #[.bool big, .bool uns] 34)) (.cells zeroP 24)
    have e : (w.alloc (.cells #[.bool big, .bool uns] 34)).heap.size = w.heap.size + 1 := by simp
    rw [e] at h
    exact h
theorem Un.new0 (w : World) (big uns : Bool) : ((w.alloc (.cells #[.bool big, .bool uns] 34)).alloc (.cells zeroP 24)).heap.size = w.heap.size + 2 := by simp

set_option maxRecDepth 20000 in
set_option maxHeartbeats 6400000 in
theorem runpack_head (s : ByteArray) (rate ch wd : Int) (big uns : Bool) (w : World) (hh : uheadB rate ch wd = false) :
    Calls Try.prog 16 #[.string s, .int .i64 rate, .int .i64 ch, .int .i64 wd, .agg #[.bool big, .bool uns]] w fun e w' => Gives w (unpP s rate ch wd big uns) (unpE s rate ch wd big uns) e w' := by
  have HN : Hid (unpE s rate ch wd big uns = 50) := by
    show _ = _
    unfold unpE
    rw [hh]
    rfl
  have HP : Hid (unpP s rate ch wd big uns = noP) := by
    show _ = _
    unfold unpP
    rw [HN.out]
    rfl
  have HU : Hid (Un w big uns ((w.alloc (.cells #[.bool big, .bool uns] 34)).alloc (.cells zeroP 24))) := Un.new w big uns
  have hn := of_decide_eq_false hh
  clear hh
  by_cases g0 : rate < 1
  · clear hn
    go_enter Try.func16, Try.ntmps16
    go_wp2
    generalize hwf : World.alloc _ _ = wf
    have hu : Un w big uns wf := by
      rw [← hwf]
      exact HU.out
    refine bodyPost_ret (v := .tuple #[.agg zeroP, .int .i64 50]) ?_ rfl ⟨none, 0, by rw [HP.out, HN.out]; rfl, by rw [HP.out]; exact rows_none _ _, by rw [HP.out]; exact fresh_none _ _ _, hu.below⟩
    rw [results_two rfl]
    have hld := run_loadVar_row (P := Try.prog) wf (w.heap.size + 1) 24 24 zeroP (0, 0) _ hu.res Try.underlying24 rfl infoP
    simp [asAddr, Result.andThen, hld]
  · skip
    by_cases g1 : 655350 < rate
    · clear hn
      go_enter Try.func16, Try.ntmps16
      go_wp2
      generalize hwf : World.alloc _ _ = wf
      have hu : Un w big uns wf := by
        rw [← hwf]
        exact HU.out
      refine bodyPost_ret (v := .tuple #[.agg zeroP, .int .i64 50]) ?_ rfl ⟨none, 0, by rw [HP.out, HN.out]; rfl, by rw [HP.out]; exact rows_none _ _, by rw [HP.out]; exact fresh_none _ _ _, hu.below⟩
      rw [results_two rfl]
      have hld := run_loadVar_row (P := Try.prog) wf (w.heap.size + 1) 24 24 zeroP (0, 0) _ hu.res Try.underlying24 rfl infoP
      simp [asAddr, Result.andThen, hld]
    · skip
      by_cases g2 : ch < 1
      · clear hn
        go_enter Try.func16, Try.ntmps16
        go_wp2
        generalize hwf : World.alloc _ _ = wf
        have hu : Un w big uns wf := by
          rw [← hwf]
          exact HU.out
        refine bodyPost_ret (v := .tuple #[.agg zeroP, .int .i64 50]) ?_ rfl ⟨none, 0, by rw [HP.out, HN.out]; rfl, by rw [HP.out]; exact rows_none _ _, by rw [HP.out]; exact fresh_none _ _ _, hu.below⟩
        rw [results_two rfl]
        have hld := run_loadVar_row (P := Try.prog) wf (w.heap.size + 1) 24 24 zeroP (0, 0) _ hu.res Try.underlying24 rfl infoP
        simp [asAddr, Result.andThen, hld]
      · skip
        by_cases g3 : 8 < ch
        · clear hn
          go_enter Try.func16, Try.ntmps16
          go_wp2
          generalize hwf : World.alloc _ _ = wf
          have hu : Un w big uns wf := by
            rw [← hwf]
            exact HU.out
          refine bodyPost_ret (v := .tuple #[.agg zeroP, .int .i64 50]) ?_ rfl ⟨none, 0, by rw [HP.out, HN.out]; rfl, by rw [HP.out]; exact rows_none _ _, by rw [HP.out]; exact fresh_none _ _ _, hu.below⟩
          rw [results_two rfl]
          have hld := run_loadVar_row (P := Try.prog) wf (w.heap.size + 1) 24 24 zeroP (0, 0) _ hu.res Try.underlying24 rfl infoP
          simp [asAddr, Result.andThen, hld]
        · skip
          by_cases g4 : wd < 4
          · clear hn
            go_enter Try.func16, Try.ntmps16
            go_wp2
            generalize hwf : World.alloc _ _ = wf
            have hu : Un w big uns wf := by
              rw [← hwf]
              exact HU.out
            refine bodyPost_ret (v := .tuple #[.agg zeroP, .int .i64 50]) ?_ rfl ⟨none, 0, by rw [HP.out, HN.out]; rfl, by rw [HP.out]; exact rows_none _ _, by rw [HP.out]; exact fresh_none _ _ _, hu.below⟩
            rw [results_two rfl]
            have hld := run_loadVar_row (P := Try.prog) wf (w.heap.size + 1) 24 24 zeroP (0, 0) _ hu.res Try.underlying24 rfl infoP
            simp [asAddr, Result.andThen, hld]
          · skip
            by_cases g5 : 32 < wd
            · clear hn
              go_enter Try.func16, Try.ntmps16
              go_wp2
              generalize hwf : World.alloc _ _ = wf
              have hu : Un w big uns wf := by
                rw [← hwf]
                exact HU.out
              refine bodyPost_ret (v := .tuple #[.agg zeroP, .int .i64 50]) ?_ rfl ⟨none, 0, by rw [HP.out, HN.out]; rfl, by rw [HP.out]; exact rows_none _ _, by rw [HP.out]; exact fresh_none _ _ _, hu.below⟩
              rw [results_two rfl]
              have hld := run_loadVar_row (P := Try.prog) wf (w.heap.size + 1) 24 24 zeroP (0, 0) _ hu.res Try.underlying24 rfl infoP
              simp [asAddr, Result.andThen, hld]
            · skip
              exact absurd ⟨by omega, by omega, by omega, by omega, by omega, by omega⟩ hn

end Go.Proofs.Ytolmijpecomkcaa

/- Own text: the document's Forward and Inverse of lists; rows in memory all at once. -/
import Derived.Test.YtecdcmjeiogenaaQ17awake
namespace Go.Proofs.Ytecdcmjeiogenaa
open Go.RowKit
set_option linter.unusedSimpArgs false
set_option linter.unusedVariables false
attribute [local go_sem] Oper.semAt_some

set_option maxRecDepth 20000 in
set_option maxHeartbeats 800000 in
theorem xforward (level : Int) (l : List Int) (lo : Option Addr) (lc : Nat) (w : World) (hl : IntsAt w lo l) : Calls Try.prog 9 #[.int .i64 level, .slice lo l.length lc] w (Ret2 (allC false level l) w) := by
  have k := xall false level l lo lc w hl
  generalize allC false level l = R at *
  clear hl
  go_enter Try.func9, Try.ntmps9
  go_wp2_with fail
  refine k.mono ?_
  rintro e w2 ⟨la, lc2, rfl, hi, hb⟩
  have HH : Hid (IntsAt w2 la (ansL R) ∧ Below w.heap.size w w2) := ⟨hi, hb⟩
  clear hi hb k
  go_wp2_with fail
  refine bodyPost_ret (results_tmp2 rfl _ _ _) rfl ?_
  exact ⟨la, lc2, rfl, HH.out⟩
set_option maxRecDepth 20000 in
set_option maxHeartbeats 800000 in
theorem xinverse (level : Int) (l : List Int) (lo : Option Addr) (lc : Nat) (w : World) (hl : IntsAt w lo l) : Calls Try.prog 11 #[.int .i64 level, .slice lo l.length lc] w (Ret2 (allC true level l) w) := by
  have k := xall true level l lo lc w hl
  generalize allC true level l = R at *
  clear hl
  go_enter Try.func11, Try.ntmps11
  go_wp2_with fail
  refine k.mono ?_
  rintro e w2 ⟨la, lc2, rfl, hi, hb⟩
  have HH : Hid (IntsAt w2 la (ansL R) ∧ Below w.heap.size w w2) := ⟨hi, hb⟩
  clear hi hb k
  go_wp2_with fail
  refine bodyPost_ret (results_tmp2 rfl _ _ _) rfl ?_
  exact ⟨la, lc2, rfl, HH.out⟩
theorem IntsAt.take {w : World} {ao : Option Addr} {l : List Int} (h : IntsAt w ao l) (n : Nat) (hn : n ≤ l.length) : IntsAt w ao (l.take n) := by
  have h1 := h.part 0 n (by omega) ao (fun b off e _ => by rw [e]; rfl)
  rwa [List.drop_zero] at h1
/-- Rows that lie in memory all at once. -/
def AllAt (w : World) (Q : List (Option Addr × List Int)) : Prop := ∀ q ∈ Q, IntsAt w q.1 q.2
theorem AllAt.low {w w' : World} {Q : List (Option Addr × List Int)} (h : AllAt w Q) (hb : Below w.heap.size w w') : AllAt w' Q := fun q hq => (h q hq).below hb
theorem AllAt.cons {w : World} {Q : List (Option Addr × List Int)} {a : Option Addr} {l : List Int} (h1 : IntsAt w a l) (h : AllAt w Q) : AllAt w ((a, l) :: Q) := fun q hq => by
  rcases List.mem_cons.1 hq with rfl | hq
  · exact h1
  · exact h q hq
theorem AllAt.get {w : World} {Q : List (Option Addr × List Int)} (h : AllAt w Q) {a : Option Addr} {l : List Int} (n : Nat) (hn : Q[n]? = some (a, l)) : IntsAt w a l := h _ (List.mem_of_getElem? hn)

end Go.Proofs.Ytecdcmjeiogenaa

/- Own text: what the program's package filter must do. -/
import Derived.Test.YtecdcmjeiogenaaR17all
import Derived.Test.YtecdcmjeiogenaaR17mid
namespace Go.Proofs.Ytecdcmjeiogenaa
open Go.RowKit
set_option linter.unusedSimpArgs false
set_option linter.unusedVariables false

/-- A list, or an error, told; with room. -/
def RetL (R : Option (List Int)) (w : World) (e : Ending) (w' : World) : Prop := ∃ la lc, e = .returned (.tuple #[.slice la (ansL R).length lc, .int .i64 (ansE R)]) ∧ IntsAt w' la (ansL R) ∧ (ansL R).length ≤ lc ∧ Below w.heap.size w w'
/-- Two lists, told; with room. -/
def RetQ (X Y : List Int) (w : World) (e : Ending) (w' : World) : Prop := ∃ xa xc ya yc, e = .returned (.tuple #[.slice xa X.length xc, .slice ya Y.length yc]) ∧ IntsAt w' xa X ∧ IntsAt w' ya Y ∧ X.length ≤ xc ∧ Y.length ≤ yc ∧ Below w.heap.size w w'
abbrev ChP := World → Addr → (Nat → Prop) → List Stp → Prop
/-- A new chain, told. -/
def NewQ (PCh : ChP) (w : World) (c : List Stp) (e : Ending) (w' : World) : Prop := ∃ p fp, e = .returned (.pointer (some p)) ∧ PCh w' p fp c ∧ (∀ k, fp k → w.heap.size ≤ k ∧ k < w'.heap.size) ∧ Below w.heap.size w w'
def GoQ (PCh : ChP) (back : Bool) (x : Int) (p : Addr) (fp : Nat → Prop) (c : List Stp) (w : World) (e : Ending) (w' : World) : Prop := e = .returned (.int .i64 (goC back c x).1) ∧ PCh w' p (grew fp w w') (goC back c x).2 ∧ Stays fp w w'
structure Does17 (PCh : ChP) : Prop where
  fwd : ∀ (level : Int) (l : List Int) (lo : Option Addr) (lc : Nat) (w : World), IntsAt w lo l → l.length ≤ lc → Calls Try.prog 8 #[.int .i64 level, .slice lo l.length lc] w (RetL (allC false level l) w)
  inv : ∀ (level : Int) (l : List Int) (lo : Option Addr) (lc : Nat) (w : World), IntsAt w lo l → l.length ≤ lc → Calls Try.prog 10 #[.int .i64 level, .slice lo l.length lc] w (RetL (allC true level l) w)
  mid : ∀ (a b : List Int) (aa ba : Option Addr) (ac bc : Nat) (w : World), IntsAt w aa a → IntsAt w ba b → a.length ≤ ac → b.length ≤ bc → Calls Try.prog 12 #[.slice aa a.length ac, .slice ba b.length bc] w (RetQ (zipN midN a b (min a.length b.length)) (zipN sidN a b (min a.length b.length)) w)
  unmid : ∀ (a b : List Int) (aa ba : Option Addr) (ac bc : Nat) (w : World), IntsAt w aa a → IntsAt w ba b → a.length ≤ ac → b.length ≤ bc → Calls Try.prog 14 #[.slice aa a.length ac, .slice ba b.length bc] w (RetQ (zipN unaN a b (min a.length b.length)) (zipN unbN a b (min a.length b.length)) w)
  nonew : ∀ (level : Int) (w : World), newC level = none → Calls Try.prog 18 #[.int .i64 level] w fun e w' => e = .returned (.pointer none) ∧ Below w.heap.size w w'
  new : ∀ (level : Int) (c : List Stp) (w : World), newC level = some c → Calls Try.prog 18 #[.int .i64 level] w (NewQ PCh w c)
  keep : ∀ (w w' : World) (p : Addr) (fp : Nat → Prop) (c : List Stp), PCh w p fp c → w.heap.size ≤ w'.heap.size → (∀ k, k < w.heap.size → fp k → w'.heap[k]? = w.heap[k]?) → PCh w' p fp c
  cf : ∀ (x : Int) (w : World) (p : Addr) (fp : Nat → Prop) (c : List Stp), PCh w p fp c → Calls Try.prog 20 #[.pointer (some p), .int .i64 x] w (GoQ PCh false x p fp c w)
  ci : ∀ (x : Int) (w : World) (p : Addr) (fp : Nat → Prop) (c : List Stp), PCh w p fp c → Calls Try.prog 21 #[.pointer (some p), .int .i64 x] w (GoQ PCh true x p fp c w)
  nf : ∀ (x : Int) (w : World), Calls Try.prog 20 #[.pointer none, .int .i64 x] w fun e w' => e = .returned (.int .i64 0) ∧ Below w.heap.size w w'
  ni : ∀ (x : Int) (w : World), Calls Try.prog 21 #[.pointer none, .int .i64 x] w fun e w' => e = .returned (.int .i64 0) ∧ Below w.heap.size w w'
theorem ex_f : allC false 1 [32, 32] = some [32, 1] := by decide +kernel
theorem ex_i : allC true 1 [32, 1] = some [32, 32] := by decide +kernel
theorem ex_m : zipN midN [3, -1] [0, 0] 2 = [1, -1] ∧ zipN sidN [3, -1] [0, 0] 2 = [3, -1] := by decide +kernel
theorem ex_n : allC false 3 [] = none ∧ newC 3 = none := by decide +kernel
theorem two_ints (w : World) (a b : Int) (ha : In64 a) (hb : In64 b) : IntsAt (w.alloc (.cells #[.int .i64 a, .int .i64 b] 3)) (some ⟨w.heap.size, 0, none⟩) [a, b] := by
  have := ints_new w [a, b] (by simp) (fun n hn => by simp only [List.mem_cons, List.not_mem_nil, or_false] at hn; rcases hn with rfl | rfl <;> (unfold In64 at ha hb; omega))
  exact this
attribute [local go_sem] Oper.semAt_some

end Go.Proofs.Ytecdcmjeiogenaa

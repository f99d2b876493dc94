/- Own text: levels cut to those that are; right numbers told. -/
import Derived.Test.YtecdcmjeiogenaaQ17l0
namespace Go.Proofs.Ytecdcmjeiogenaa
open Go.RowKit
set_option linter.unusedSimpArgs false
set_option linter.unusedVariables false

def lvN (k : Int) : Int := if k < 0 then 0 else if 2 < k then 2 else k
theorem lvN_in (k : Int) : 0 ≤ lvN k ∧ lvN k ≤ 2 := by unfold lvN; split <;> (try split) <;> omega
theorem lvN_c (k : Int) : ∃ c, newC (lvN k) = some c := by
  have h := lvN_in k
  obtain h | h | h : lvN k = 0 ∨ lvN k = 1 ∨ lvN k = 2 := by omega
  all_goals rw [h]; exact ⟨_, rfl⟩
theorem allC_some {back : Bool} {lv : Int} {c : List Stp} (hc : newC lv = some c) {l : List Int} (h : ∀ x ∈ l, In32 x) : allC back lv l = some (runC back c l) := by
  unfold allC; rw [hc]; exact if_pos h
theorem four_all {lv : Int} {c : List Stp} (hc : newC lv = some c) {l : List Int} (h : ∀ x ∈ l, In32 x) : allC false lv l = some (runC false c l) ∧ allC true lv (runC false c l) = some l ∧ allC true lv l = some (runC true c l) ∧ allC false lv (runC true c l) = some l := by
  refine ⟨allC_some hc h, ?_, allC_some hc h, ?_⟩
  · rw [allC_some hc (runC_in false c l)]; have := runC_back false c l h; rw [show (!false) = true from rfl] at this; rw [this]
  · rw [allC_some hc (runC_in true c l)]; have := runC_back true c l h; rw [show (!true) = false from rfl] at this; rw [this]
/-- Right numbers, told; with room. -/
def RetS (A : List Int) (w : World) (e : Ending) (w' : World) : Prop := ∃ la lc, e = .returned (.tuple #[.slice la A.length lc, .int .i64 0]) ∧ IntsAt w' la A ∧ A.length ≤ lc ∧ Below w.heap.size w w'
theorem ret_s {A : List Int} {w : World} : RetL (some A) w = RetS A w := rfl
theorem w32_map (l : List Int) : ∀ x ∈ l.map w32, In32 x := fun x hx => by obtain ⟨y, _, rfl⟩ := List.mem_map.1 hx; exact w32_in y
theorem map_snoc (l : List Int) (i : Nat) (h : i < l.length) : (l.take (i + 1)).map w32 = (l.take i).map w32 ++ [w32 (l.getD i 0)] := by rw [take_snoc l i h, List.map_append]; rfl
theorem Out.pushv {w X w1 : World} {v v' : Value} {xs : List Int} {n : Nat} {p : Int} {o : Obj} (h : Out w v xs X) (hn : xs.length = n) (ho : w1.ownsRow w.heap.size 3 1 v' (n + 1) (intsC xs ++ [.int .i64 p])) (hg : (X.alloc o).grownBy w1 v.ownBlock) : Out w v' (xs ++ [p]) w1 := by
  subst hn
  refine ⟨by rw [List.length_append, intsC_append]; exact ho, grown_to hg (below_on h.below h.below.size (below_new X o)) (by have := h.below.size; simp; omega) (fun k e => (h.own.lt k e).1)⟩
theorem Out.own1 {w X X' : World} {v : Value} {xs : List Int} {n : Nat} (h : Out w v xs X) (hn : xs.length = n) (hb : Below X.heap.size X X') : X'.ownsRow w.heap.size 3 1 v n (intsC xs) := by
  have := owns_below h.own hb
  rwa [hn] at this
theorem Out.done {w X : World} {v : Value} {xs : List Int} {n : Nat} (h : Out w v xs X) (hn : xs.length = n) (hn2 : n ≤ 1000) (hr : ∀ x ∈ xs, In32 x) : ∃ ao cap, v = .slice ao n cap ∧ IntsAt X ao xs ∧ n ≤ cap := by
  subst hn
  obtain ⟨ao, cap, e, _, hle, _⟩ := owns_shape h.own
  refine ⟨ao, cap, e, own_ints (N := w.heap.size) (cap := cap) (by rw [← e]; exact h.own) (by omega) (fun n hn => ?_), hle⟩
  have := hr n hn
  unfold In32 at this
  omega
theorem runC_at (back : Bool) (c : List Stp) (l : List Int) (i : Nat) (h : i < l.length) : (runC back c l).getD i 0 = (goC back (aftC back c (l.take i)) (l.getD i 0)).1 := by
  induction l generalizing c i with
  | nil => simp at h
  | cons x l ih =>
    cases i with
    | zero => rfl
    | succ i => exact ih _ i (by simpa using h)
theorem aftC_at (back : Bool) (c : List Stp) (l : List Int) (i : Nat) (h : i < l.length) : aftC back c (l.take (i + 1)) = (goC back (aftC back c (l.take i)) (l.getD i 0)).2 := by
  rw [take_snoc l i h, aftC_snoc]

end Go.Proofs.Ytecdcmjeiogenaa

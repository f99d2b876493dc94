/- Own text: a recipe whose lists grow by append. a drawn region whose loads come ahead of its stores. -/
import Derived.Test.YtdlakbgcflekkaaR8same
import Derived.Test.YtdlakbgcflekkaaQ8all
import Derived.Deep.AppendLies
import Derived.Deep.RegionHeld3
import Derived.BigRegion
import Derived.Test.YtdlakbgcflekkaaMem
namespace Go.Proofs.Ytdlakbgcflekkaa
open Go.RowKit
set_option linter.unusedSimpArgs false
set_option linter.unusedVariables false

/-- A recipe's box at k whose two lists grow; vP and vE: the lists that are being grown; b2 and b3: what the box holds. -/
structure Two (S : Nat → Prop) (k : Nat) (w0 : World) (mm oo : Int) (b2 b3 vP vE : Value) (P E : List Int) (X : World) : Prop where
  hS : ∀ i, k ≤ i → S i
  fr : Stays S w0 X
  bx : X.heap[k]? = some (.cells #[.int .i64 mm, .int .i64 oo, b2, b3] 24 (0, 0))
  oP : X.ownsRow (k + 1) 3 1 vP P.length (intsC P)
  oE : X.ownsRow (k + 1) 3 1 vE E.length (intsC E)
  ab : ∀ g, vP.ownBlock = some g → vE.ownBlock ≠ some g
theorem own_low {N : Nat} {e : TypeId} {z : Nat} {v : Value} {n : Nat} {xs : List Value} {w w' : World} (h : w.ownsRow N e z v n xs) (hb : Below w.heap.size w w') : w'.ownsRow N e z v n xs := by
  refine h.kept (row := none) ⟨hb.os, hb.tape, hb.output, hb.size, fun k hk _ => hb.block k hk⟩ ?_
  cases e : v.ownBlock with
  | none => exact .inl rfl
  | some g => exact .inr (fun h => by cases h)
section
variable {S : Nat → Prop} {k : Nat} {w0 X X' : World} {mm oo : Int} {b2 b3 vP vE : Value} {P E : List Int}
theorem Two.lt (h : Two S k w0 mm oo b2 b3 vP vE P E X) : k < X.heap.size := lt_of_block h.bx
theorem Two.low (h : Two S k w0 mm oo b2 b3 vP vE P E X) (hb : Below X.heap.size X X') : Two S k w0 mm oo b2 b3 vP vE P E X' :=
  ⟨h.hS, h.fr.trans (Stays.of_below hb S) (fun _ _ h => h), by rw [hb.block _ h.lt]; exact h.bx, own_low h.oP hb, own_low h.oE hb, h.ab⟩
theorem Two.drew (h : Two S k w0 mm oo b2 b3 vP vE P E X) : Two S k w0 mm oo b2 b3 vP vE P E X.drew := h.low ⟨rfl, rfl, rfl, Nat.le_refl _, fun _ _ => rfl⟩
theorem Two.alloc (h : Two S k w0 mm oo b2 b3 vP vE P E X) (o : Obj) : Two S k w0 mm oo b2 b3 vP vE P E (X.alloc o) := h.low ((Below.refl _ _).alloc (Nat.le_refl _) _)
theorem Two.stays (h : Two S k w0 mm oo b2 b3 vP vE P E X) {T : Nat → Prop} (hs : Stays T X X') (hT : ∀ i, T i → i < k ∧ S i) : Two S k w0 mm oo b2 b3 vP vE P E X' := by
  have kp : ∀ (v : Value) (L : List Int), X.ownsRow (k + 1) 3 1 v L.length (intsC L) → X'.ownsRow (k + 1) 3 1 v L.length (intsC L) := fun v L ho => by
    refine ⟨ho.1, ?_⟩
    rcases ho.2 with h0 | ⟨g, cap, cur, hv, hb, hg, r⟩
    · exact .inl h0
    · refine .inr ⟨g, cap, cur, hv, hb, ?_, r⟩
      rw [hs.block g (lt_of_block hg) (fun e => by have := (hT g e).1; omega)]
      exact hg
  exact ⟨h.hS, h.fr.trans hs (fun i _ ht => (hT i ht).2), by rw [hs.block k h.lt (fun e => by have := (hT k e).1; omega)]; exact h.bx, kp _ _ h.oP, kp _ _ h.oE, h.ab⟩
theorem Two.pushP (h : Two S k w0 mm oo b2 b3 vP vE P E X) {g cap : Nat} {w1 : World} {p : Int} (ho : w1.ownsRow (k + 1) 3 1 (.slice (some ⟨g, 0, none⟩) (P.length + 1) cap) (P.length + 1) (intsC P ++ [.int .i64 p])) (hg : X.grownBy w1 vP.ownBlock) (hat : vP.ownBlock = some g ∨ g = X.heap.size) :
    Two S k w0 mm oo b2 b3 (.slice (some ⟨g, 0, none⟩) (P.length + 1) cap) vE (P ++ [p]) E w1 := by
  refine ⟨h.hS, h.fr.trans (Stays.of_grown hg (fun b hb => h.hS b (by have := h.oP.lt b hb; omega))) (fun _ _ h => h), ?_, ?_, ?_, fun x hx hy => ?_⟩
  · rw [hg.block k h.lt (fun e => by have := h.oP.lt k e.symm; omega)]; exact h.bx
  · rw [List.length_append, intsC_append]; exact ho
  · refine h.oE.kept hg ?_
    cases e : vE.ownBlock with
    | none => exact .inl rfl
    | some y => exact .inr (fun e2 => h.ab y e2.symm e)
  · have e : g = x := by simpa [Value.ownBlock] using hx
    subst e
    rcases hat with h1 | h1
    · exact h.ab _ h1 hy
    · have := h.oE.lt _ hy; omega
theorem Two.pushE (h : Two S k w0 mm oo b2 b3 vP vE P E X) {g cap : Nat} {w1 : World} {p : Int} (ho : w1.ownsRow (k + 1) 3 1 (.slice (some ⟨g, 0, none⟩) (E.length + 1) cap) (E.length + 1) (intsC E ++ [.int .i64 p])) (hg : X.grownBy w1 vE.ownBlock) (hat : vE.ownBlock = some g ∨ g = X.heap.size) :
    Two S k w0 mm oo b2 b3 vP (.slice (some ⟨g, 0, none⟩) (E.length + 1) cap) P (E ++ [p]) w1 := by
  refine ⟨h.hS, h.fr.trans (Stays.of_grown hg (fun b hb => h.hS b (by have := h.oE.lt b hb; omega))) (fun _ _ h => h), ?_, ?_, ?_, fun x hx hy => ?_⟩
  · rw [hg.block k h.lt (fun e => by have := h.oE.lt k e.symm; omega)]; exact h.bx
  · refine h.oP.kept hg ?_
    cases e : vP.ownBlock with
    | none => exact .inl rfl
    | some y => exact .inr (fun e2 => h.ab y e e2.symm)
  · rw [List.length_append, intsC_append]; exact ho
  · have e : g = x := by simpa [Value.ownBlock] using hy
    subst e
    rcases hat with h1 | h1
    · exact h.ab _ hx h1
    · have := h.oP.lt _ hx; omega
theorem Two.set (h : Two S k w0 mm oo b2 b3 vP vE P E X) : Two S k w0 mm oo vP vE vP vE P E ((X.setCell ⟨k, 2, none⟩ vP).setCell ⟨k, 3, none⟩ vE) := by
  refine ⟨h.hS, (h.fr.setCell _ _ (.inl (h.hS k (Nat.le_refl _)))).setCell _ _ (.inl (h.hS k (Nat.le_refl _))), ?_, ownsRow_setCell_below (ownsRow_setCell_below h.oP (Nat.lt_succ_self k) _) (Nat.lt_succ_self k) _, ownsRow_setCell_below (ownsRow_setCell_below h.oE (Nat.lt_succ_self k) _) (Nat.lt_succ_self k) _, h.ab⟩
  rw [block_setCell _ _ _ _ _ _ (block_setCell _ _ _ _ _ _ h.bx)]
  rfl
theorem Two.cells (h : Two S k w0 mm oo b2 b3 vP vE P E X) : X.cell? ⟨k, 0, none⟩ = some (.int .i64 mm) ∧ X.cell? ⟨k, 1, none⟩ = some (.int .i64 oo) ∧ X.cell? ⟨k, 2, none⟩ = some b2 ∧ X.cell? ⟨k, 3, none⟩ = some b3 := by
  refine ⟨?_, ?_, ?_, ?_⟩ <;> (rw [cell_of_row _ _ _ _ _ _ h.bx]; rfl)
theorem Two.frozen (h : Two S k w0 mm oo b2 b3 vP vE P E X) (o : Nat) : X.frozen? ⟨k, o, none⟩ = false := by simp [World.frozen?, h.bx]
theorem Two.shape (h : Two S k w0 mm oo b2 b3 vP vE P E X) : ∃ pa pc ea ec, vP = .slice pa P.length pc ∧ vE = .slice ea E.length ec := by
  obtain ⟨pa, pc, h1, _⟩ := owns_shape h.oP
  obtain ⟨ea, ec, h2, _⟩ := owns_shape h.oE
  exact ⟨pa, pc, ea, ec, h1, h2⟩
end
theorem own_ints {N : Nat} {ao : Option Addr} {cap : Nat} {L : List Int} {w : World} (h : w.ownsRow N 3 1 (.slice ao L.length cap) L.length (intsC L)) (hl : L.length ≤ 17592186044415) (hn : ∀ n ∈ L, -9223372036854775808 ≤ n ∧ n ≤ 9223372036854775807) : IntsAt w ao L := by
  refine ⟨hl, hn, fun h0 => ?_⟩
  obtain ⟨g, c, e, _, _⟩ := h.form h0
  simp only [Value.slice.injEq, true_and] at e
  obtain ⟨rfl, rfl⟩ := e
  refine ⟨g, 0, rfl, fun j hj => ?_⟩
  rw [Nat.zero_add, h.cellAt j (by omega)]
  simp [intsC, List.getD_eq_getElem?_getD, List.getElem?_eq_getElem hj]
/-- A block that holds one number, made to be appended. -/
theorem tmp_new (X : World) (v : Value) : (X.alloc (.cells #[v] 3)).heap[X.heap.size]? = some (.cells #[v] 3 (0, 0)) := heap_alloc_new _ _
theorem tmp_next (X : World) (o : Obj) (v : Value) : ((X.alloc o).alloc (.cells #[v] 3)).heap[X.heap.size + 1]? = some (.cells #[v] 3 (0, 0)) := by
  have := heap_alloc_new (X.alloc o) (.cells #[v] 3)
  rwa [show (X.alloc o).heap.size = X.heap.size + 1 from by simp] at this
theorem tmp_old (X : World) (o : Obj) (v : Value) : ((X.alloc (.cells #[v] 3)).alloc o).heap[X.heap.size]? = some (.cells #[v] 3 (0, 0)) := heap_two _ _ _
theorem tmp_kept {X w1 : World} {B : Nat} {o : Obj} {row : Option Nat} (hg : X.grownBy w1 row) (hB : X.heap[B]? = some o) (hne : row ≠ some B) : w1.heap[B]? = some o := by
  rw [hg.block B (lt_of_block hB) (fun e => hne e.symm)]; exact hB

end Go.Proofs.Ytdlakbgcflekkaa

namespace Go.Proofs.Ytdlakbgcflekkaa
open Go.RowKit
set_option linter.unusedSimpArgs false
set_option linter.unusedVariables false

section
variable {P : Program} {ops : Array Oper} {Q : Exit → Act → World → Prop} {md : Region.Mode} {S : World → Prop} {n : Nat}
/-- Whatever order is picked; S holds till the operation n has come up (n: the first store, which waits for the loads). -/
def Till (P : Program) (md : Region.Mode) (ops : Array Oper) (Q : Exit → Act → World → Prop) (S : World → Prop) (n : Nat) : Nat → Array Bool → Act → World → Prop
  | 0, listed, a, w => Region.ready md ops listed = [] ∧ Q .normal a w
  | fuel + 1, listed, a, w => (Region.ready md ops listed = [] → Q .normal a w) ∧ ∀ i, i ∈ Region.ready md ops listed → wpOp P ops Q i (fun a' w' => ((listed.setIfInBounds i true).getD n true = false → S w') ∧ Till P md ops Q S n fuel (listed.setIfInBounds i true) a' w') a w
theorem Till.any (fuel : Nat) (listed : Array Bool) (a : Act) (w : World) (h : Till P md ops Q S n fuel listed a w) : wpAny P md ops Q fuel listed a w := by
  induction fuel generalizing listed a w with
  | zero => exact h
  | succ f ih => exact ⟨h.1, fun i hi => wpOp_mono (fun a' w' hh => ih _ a' w' hh.2) (h.2 i hi)⟩
/-- n waits for i. -/
def Waits (md : Region.Mode) (ops : Array Oper) (n i : Nat) : Prop := ∀ on, ops[n]? = some on → ∃ e, e ∈ on.after ∧ Region.binds md e = true ∧ e.on = i
theorem Waits.of {i : Nat} (h : ((ops[n]?).all fun on => on.after.any fun e => Region.binds md e && (e.on == i)) = true) : Waits md ops n i := fun on ho => by
  rw [ho] at h
  simp only [Option.all_some, Array.any_eq_true, Bool.and_eq_true_iff, beq_iff_eq] at h
  obtain ⟨j, hj, h1, h2⟩ := h
  exact ⟨_, Array.getElem_mem hj, h1, h2⟩
theorem Till.first {i : Nat} {oi : Oper} {v : Value} (hi : ops[i]? = some oi) (hsel : ∀ (j : Nat) (o : Oper) cs b, ops[j]? = some o → o.op ≠ .select cs b)
    (hQ : ∀ c a w, Q (.panic c) (a.put oi.dst v) w → Q (.panic c) a w) (hni : n ≠ i) (hwt : Waits md ops n i) (fuel : Nat) :
    ∀ (listed : Array Bool) (a : Act) (w : World), (∀ j oj, ops[j]? = some oj → j ≠ i → listed.getD j true = false → (∀ e ∈ oj.after, Region.binds md e = true → e.on ≠ i) → oi.apart ops oj = true) →
      listed.getD n true = false → i ∈ Region.ready md ops listed → YieldsIf P ops S oi v a → S w → Till P md ops Q S n fuel (listed.setIfInBounds i true) (a.put oi.dst v) w → Till P md ops Q S n (fuel + 1) listed a w := by
  induction fuel with
  | zero =>
    intro listed a w _ hn hr hy hS H
    refine ⟨fun h => (by rw [h] at hr; cases hr), fun j hj => ?_⟩
    by_cases hji : j = i
    · subst hji; exact hy.wpOp hi hS ⟨fun _ => hS, H⟩
    · have := ready_mono hj hji
      rw [H.1] at this
      cases this
  | succ f ih =>
    intro listed a w hfree hn hr hy hS H
    refine ⟨fun h => (by rw [h] at hr; cases hr), fun j hj => ?_⟩
    by_cases hji : j = i
    · subst hji; exact hy.wpOp hi hS ⟨fun _ => hS, H⟩
    obtain ⟨hun, oj, hoj, hall⟩ := mem_ready.1 hj
    have hnot : ∀ e ∈ oj.after, Region.binds md e = true → e.on ≠ i := fun e he hb heq => by
      have h1 := hall e he hb
      have h0 := (mem_ready.1 hr).1
      rw [heq] at h1
      rcases Nat.lt_or_ge i listed.size with h' | h'
      · simp [h'] at h0 h1; rw [h0] at h1; cases h1
      · simp [Array.getElem?_eq_none h'] at h1
    have hjn : j ≠ n := fun e => by
      subst e
      obtain ⟨e, he, hb, heq⟩ := hwt oj hoj
      exact hnot e he hb heq
    have hn2 : (listed.setIfInBounds j true).getD n true = false := by rw [getD_set_ne true hjn]; exact hn
    have hn3 : ((listed.setIfInBounds i true).setIfInBounds j true).getD n true = false := by rw [getD_set_ne true hjn, getD_set_ne true (Ne.symm hni)]; exact hn
    have h2 := wpOp_putIf hoj (hfree j oj hoj hji hun hnot) (fun cs b => hsel i oi cs b hi) (fun cs b => hsel j oj cs b hoj) hQ hy (H.2 j (ready_mono hj hji))
    refine wpOp_mono (fun a' w' h3 => ?_) h2
    have hS' := h3.2.1 hn3
    refine ⟨fun _ => hS', ih (listed.setIfInBounds j true) a' w' (fun k ok hk hki hku hno => hfree k ok hk hki ?_ hno) hn2 (ready_mono hr (Ne.symm hji)) h3.1 hS' ?_⟩
    · by_cases hjk : j = k
      · subst hjk; exact hun
      · rwa [getD_set_ne true hjk] at hku
    · rw [Array.setIfInBounds_comm _ _ hji]
      exact h3.2.2
theorem Till.take {i : Nat} {oi : Oper} {v : Value} {fuel : Nat} {listed : Array Bool} {a : Act} {w : World} (hi : ops[i]? = some oi) (hs : Region.noSelect ops = true) (hf : Region.free md ops listed i = true) (hr : (Region.ready md ops listed).contains i = true)
    (hQ : ∀ c a w, Q (.panic c) (a.put oi.dst v) w → Q (.panic c) a w) (hni : n ≠ i) (hwt : Waits md ops n i) (hn : listed.getD n true = false) (hy : YieldsIf P ops S oi v a) (hS : S w)
    (h : Till P md ops Q S n fuel (listed.setIfInBounds i true) (a.put oi.dst v) w) : Till P md ops Q S n (fuel + 1) listed a w :=
  Till.first hi (Region.noSelect_spec hs) hQ hni hwt fuel listed a w (Region.free_spec hi hf) hn (by simpa using hr) hy hS h
/-- What only moves comes first, whatever the store waits for. -/
theorem Till.firstP {i : Nat} {oi : Oper} {v : Value} (hi : ops[i]? = some oi) (hsel : ∀ (j : Nat) (o : Oper) cs b, ops[j]? = some o → o.op ≠ .select cs b)
    (hQ : ∀ c a w, Q (.panic c) (a.put oi.dst v) w → Q (.panic c) a w) (hni : n ≠ i) (fuel : Nat) :
    ∀ (listed : Array Bool) (a : Act) (w : World), (∀ j oj, ops[j]? = some oj → j ≠ i → listed.getD j true = false → (∀ e ∈ oj.after, Region.binds md e = true → e.on ≠ i) → oi.apart ops oj = true) →
      i ∈ Region.ready md ops listed → YieldsIf P ops (fun _ => True) oi v a → (listed.getD n true = false → S w) → Till P md ops Q S n fuel (listed.setIfInBounds i true) (a.put oi.dst v) w → Till P md ops Q S n (fuel + 1) listed a w := by
  induction fuel with
  | zero =>
    intro listed a w _ hr hy hS H
    refine ⟨fun h => (by rw [h] at hr; cases hr), fun j hj => ?_⟩
    by_cases hji : j = i
    · subst hji; exact hy.wpOp hi trivial ⟨fun h => hS (by rwa [getD_set_ne true (Ne.symm hni)] at h), H⟩
    · have := ready_mono hj hji
      rw [H.1] at this
      cases this
  | succ f ih =>
    intro listed a w hfree hr hy hS H
    refine ⟨fun h => (by rw [h] at hr; cases hr), fun j hj => ?_⟩
    by_cases hji : j = i
    · subst hji; exact hy.wpOp hi trivial ⟨fun h => hS (by rwa [getD_set_ne true (Ne.symm hni)] at h), H⟩
    obtain ⟨hun, oj, hoj, hall⟩ := mem_ready.1 hj
    have hnot : ∀ e ∈ oj.after, Region.binds md e = true → e.on ≠ i := fun e he hb heq => by
      have h1 := hall e he hb
      have h0 := (mem_ready.1 hr).1
      rw [heq] at h1
      rcases Nat.lt_or_ge i listed.size with h' | h'
      · simp [h'] at h0 h1; rw [h0] at h1; cases h1
      · simp [Array.getElem?_eq_none h'] at h1
    have h2 := wpOp_putIf hoj (hfree j oj hoj hji hun hnot) (fun cs b => hsel i oi cs b hi) (fun cs b => hsel j oj cs b hoj) hQ hy (H.2 j (ready_mono hj hji))
    refine wpOp_mono (fun a' w' h3 => ?_) h2
    have hS' : (listed.setIfInBounds j true).getD n true = false → S w' := fun h => h3.2.1 (by
      rw [Array.setIfInBounds_comm _ _ (Ne.symm hji), getD_set_ne true (Ne.symm hni)]; exact h)
    refine ⟨hS', ih (listed.setIfInBounds j true) a' w' (fun k ok hk hki hku hno => hfree k ok hk hki ?_ hno) (ready_mono hr (Ne.symm hji)) h3.1 hS' ?_⟩
    · by_cases hjk : j = k
      · subst hjk; exact hun
      · rwa [getD_set_ne true hjk] at hku
    · rw [Array.setIfInBounds_comm _ _ hji]
      exact h3.2.2
theorem Till.takeP {i : Nat} {oi : Oper} {v : Value} {fuel : Nat} {listed : Array Bool} {a : Act} {w : World} (hi : ops[i]? = some oi) (hs : Region.noSelect ops = true) (hf : Region.free md ops listed i = true) (hr : (Region.ready md ops listed).contains i = true)
    (hQ : ∀ c a w, Q (.panic c) (a.put oi.dst v) w → Q (.panic c) a w) (hni : n ≠ i) (hy : YieldsIf P ops (fun _ => True) oi v a) (hS : S w)
    (h : Till P md ops Q S n fuel (listed.setIfInBounds i true) (a.put oi.dst v) w) : Till P md ops Q S n (fuel + 1) listed a w :=
  Till.firstP hi (Region.noSelect_spec hs) hQ hni fuel listed a w (Region.free_spec hi hf) (by simpa using hr) hy (fun _ => hS) h
def Ups (P : Program) (md : Region.Mode) (ops : Array Oper) (Q : Exit → Act → World → Prop) (S : World → Prop) (n fuel : Nat) (listed : Array Bool) (a : Act) (w : World) (rs : List Nat) : Prop :=
  ∀ i, i ∈ rs → wpOp P ops Q i (fun a' w' => ((listed.setIfInBounds i true).getD n true = false → S w') ∧ Till P md ops Q S n fuel (listed.setIfInBounds i true) a' w') a w
theorem Ups.nil {fuel : Nat} {listed : Array Bool} {a : Act} {w : World} : Ups P md ops Q S n fuel listed a w [] := fun _ h => by cases h
theorem Ups.cons {fuel : Nat} {listed : Array Bool} {a : Act} {w : World} {i : Nat} {o : Oper} {rs : List Nat} (ho : ops[i]? = some o)
    (h : ∀ K' : Act → World → Prop, Shut (∀ a w, ((listed.setIfInBounds i true).getD n true = false → S w) → Till P md ops Q S n fuel (listed.setIfInBounds i true) a w → K' a w) → if Region.wanted o (yielded ops a.tmps) = true then Oper.wp P o a w K' Q else K' (a.put o.dst undef) w)
    (hs : Ups P md ops Q S n fuel listed a w rs) : Ups P md ops Q S n fuel listed a w (i :: rs) := fun j hj => by
  rcases List.mem_cons.1 hj with rfl | hj
  · exact wpOp_step ho (fun K' hK => h K' (fun a w hS hW => hK a w ⟨hS, hW⟩))
  · exact hs j hj
theorem Till.ready {rs : List Nat} {fuel : Nat} {listed : Array Bool} {a : Act} {w : World} (hr : Region.ready md ops listed = rs) (hne : rs ≠ []) (h : Ups P md ops Q S n fuel listed a w rs) : Till P md ops Q S n (fuel + 1) listed a w :=
  ⟨fun h0 => absurd (hr ▸ h0) hne, hr ▸ h⟩
theorem Till.done {fuel : Nat} {listed : Array Bool} {a : Act} {w : World} (hr : Region.ready md ops listed = []) (h : Q .normal a w) : Till P md ops Q S n fuel listed a w := by
  cases fuel with
  | zero => exact ⟨hr, h⟩
  | succ f => exact ⟨fun _ => h, fun i hi => by rw [hr] at hi; cases hi⟩
theorem Till.begin {id : Nat} {a : Act} {w : World} (hm : P.follows .mixedOrders = true) (hS : S w.drew) (h : S w.drew → Till P .any ops Q S n ops.size (Array.replicate ops.size false) a w.drew) : (Code.region id ops true).wp P Q a w :=
  wp_region_any hm (Till.any _ _ _ _ (h hS))
end

end Go.Proofs.Ytdlakbgcflekkaa

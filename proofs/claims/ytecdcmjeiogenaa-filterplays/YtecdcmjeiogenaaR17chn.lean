/- Own text: the document's chains in memory. -/
import Derived.Test.YtecdcmjeiogenaaR17see
namespace Go.Proofs.Ytecdcmjeiogenaa
open Go.RowKit
set_option linter.unusedSimpArgs false
set_option linter.unusedVariables false

/-- The blocks that a chain's steps write to. -/
def wrL (Q : List (Nat × Nat)) : List Nat := Q.flatMap fun q => [q.1, q.2]
theorem wrL_mem {Q : List (Nat × Nat)} {i g b : Nat} (h : Q[i]? = some (g, b)) : g ∈ wrL Q ∧ b ∈ wrL Q := by
  have := List.mem_of_getElem? h
  exact ⟨List.mem_flatMap.2 ⟨_, this, by simp⟩, List.mem_flatMap.2 ⟨_, this, by simp⟩⟩
theorem wrL_ne {Q : List (Nat × Nat)} (hn : (wrL Q).Nodup) {i j g b g2 b2 : Nat} (h : Q[i]? = some (g, b)) (h2 : Q[j]? = some (g2, b2)) (hij : i ≠ j) : g2 ≠ g ∧ g2 ≠ b ∧ b2 ≠ g ∧ b2 ≠ b := by
  induction Q generalizing i j with
  | nil => simp at h
  | cons q Q ih =>
    have hn2 : (q.1 :: q.2 :: wrL Q).Nodup := hn
    have hn3 : (wrL Q).Nodup := (List.nodup_cons.1 (List.nodup_cons.1 hn2).2).2
    have n1 := (List.nodup_cons.1 hn2).1
    have n2 := (List.nodup_cons.1 (List.nodup_cons.1 hn2).2).1
    cases i with
    | zero =>
      simp only [List.getElem?_cons_zero, Option.some.injEq] at h
      subst h
      cases j with
      | zero => exact absurd rfl hij
      | succ j =>
        have hm := wrL_mem (Q := Q) (i := j) (by simpa using h2)
        refine ⟨fun e => n1 ?_, fun e => n2 ?_, fun e => n1 ?_, fun e => n2 ?_⟩
        · rw [← e]; exact List.mem_cons_of_mem _ hm.1
        · rw [← e]; exact hm.1
        · rw [← e]; exact List.mem_cons_of_mem _ hm.2
        · rw [← e]; exact hm.2
    | succ i =>
      have h' : Q[i]? = some (g, b) := by simpa using h
      cases j with
      | zero =>
        simp only [List.getElem?_cons_zero, Option.some.injEq] at h2
        subst h2
        have hm := wrL_mem (Q := Q) (i := i) h'
        refine ⟨fun e => n1 ?_, fun e => n1 ?_, fun e => n2 ?_, fun e => n2 ?_⟩
        · rw [e]; exact List.mem_cons_of_mem _ hm.1
        · rw [e]; exact List.mem_cons_of_mem _ hm.2
        · rw [e]; exact hm.1
        · rw [e]; exact hm.2
      | succ j => exact ih hn3 h' (by simpa using h2) (fun e => hij (by rw [e]))
/-- All steps are as steps are. -/
def ChnG (c : List Stp) : Prop := ∀ s ∈ c, ∃ t, t ≤ 32 ∧ StpOk t s
/-- What a call may have to do with afterwards: what it had to do with, and what it made. -/
def grew (fp : Nat → Prop) (w w' : World) : Nat → Prop := fun k => fp k ∨ (w.heap.size ≤ k ∧ k < w'.heap.size)
/-- A chain of the document's in memory: its box (at pc), the row of its steps (at ao), the steps' boxes and weights (Q). -/
structure ChnAt (w : World) (fp : Nat → Prop) (pc : Nat) (ao : Option Addr) (cap : Nat) (Q : List (Nat × Nat)) (c : List Stp) : Prop where
  len : c.length = Q.length
  few : Q.length ≤ 1000
  box : Box w pc #[.slice ao Q.length cap] 56
  fpc : fp pc
  row : ∀ (i g bw : Nat), Q[i]? = some (g, bw) → ∃ b, ao = some ⟨b, 0, none⟩ ∧ fp b ∧ b ∉ wrL Q ∧ w.cell? ⟨b, i, none⟩ = some (.pointer (some ⟨g, 0, none⟩))
  stp : ∀ (i g bw : Nat) (s : Stp), Q[i]? = some (g, bw) → c[i]? = some s → ∃ bs cs, StpAt w g bw bs cs s ∧ fp g ∧ fp bw ∧ fp bs ∧ bs ∉ wrL Q
  nd : (wrL Q).Nodup
  npc : pc ∉ wrL Q
  ok : ChnG c
section
variable {w w' : World} {fp fp2 : Nat → Prop} {pc : Nat} {ao : Option Addr} {cap : Nat} {Q : List (Nat × Nat)} {c : List Stp}
theorem ChnAt.keep (h : ChnAt w fp pc ao cap Q c) (hz : w.heap.size ≤ w'.heap.size) (hk : ∀ k, k < w.heap.size → fp k → w'.heap[k]? = w.heap[k]?) (hf : ∀ k, fp k → fp2 k) : ChnAt w' fp2 pc ao cap Q c := by
  refine ⟨h.len, h.few, ⟨(hk _ h.box.lt h.fpc).trans h.box.h⟩, hf _ h.fpc, fun i g bw hi => ?_, fun i g bw s hi hs => ?_, h.nd, h.npc, h.ok⟩
  · obtain ⟨b, e, f, n, r⟩ := h.row i g bw hi
    exact ⟨b, e, hf _ f, n, (World.cell?_of_block (w := w) (hk b (lt_cell r) f)).trans r⟩
  · obtain ⟨bs, cs, r, f1, f2, f3, n⟩ := h.stp i g bw s hi hs
    exact ⟨bs, cs, r.keep hz (hk _ r.box.lt f1) (hk _ r.ltw f2) (hk _ r.lts f3), hf _ f1, hf _ f2, hf _ f3, n⟩
theorem ChnAt.low (h : ChnAt w fp pc ao cap Q c) (hb : Below w.heap.size w w') (hf : ∀ k, fp k → fp2 k) : ChnAt w' fp2 pc ao cap Q c := h.keep hb.size (fun k hk _ => hb.block k hk) hf
/-- A step is another one. -/
theorem ChnAt.step (h : ChnAt w fp pc ao cap Q c) {i g bw : Nat} {s' : Stp} (hi : Q[i]? = some (g, bw)) (hs : SeeP w g bw s' w') (hy : Stays (fun b => b = g ∨ b = bw) w w') (hk : ∃ t, t ≤ 32 ∧ StpOk t s') : ChnAt w' (grew fp w w') pc ao cap Q (c.set i s') := by
  have hm := wrL_mem hi
  have ho : ∀ k, k < w.heap.size → k ∉ wrL Q → w'.heap[k]? = w.heap[k]? := fun k h1 h2 => hy.block k h1 (fun e => by rcases e with rfl | rfl; exact h2 hm.1; exact h2 hm.2)
  refine ⟨by rw [List.length_set]; exact h.len, h.few, ⟨(ho _ h.box.lt h.npc).trans h.box.h⟩, .inl h.fpc, fun j g2 b2 hj => ?_, fun j g2 b2 s hj hsj => ?_, h.nd, h.npc, fun s hm => ?_⟩
  · obtain ⟨b, e, f, n, r⟩ := h.row j g2 b2 hj
    exact ⟨b, e, .inl f, n, (World.cell?_of_block (w := w) (ho b (lt_cell r) n)).trans r⟩
  · have hjl : j < c.length := by rw [h.len]; exact (List.getElem?_eq_some_iff.1 hj).1
    rw [List.getElem?_set] at hsj
    by_cases e : i = j
    · subst e
      rw [if_pos rfl, if_pos hjl] at hsj
      injection hsj with hsj
      subst hsj
      rw [hi] at hj
      injection hj with hj
      injection hj with e1 e2
      subst e1 e2
      obtain ⟨bs, cs, r, hb⟩ := hs
      obtain ⟨_, _, _, f1, f2, _, _⟩ := h.stp i g bw _ hi (List.getElem?_eq_getElem hjl)
      refine ⟨bs, cs, r, .inl f1, .inl f2, .inr ⟨hb, r.lts⟩, fun q => ?_⟩
      obtain ⟨p, hp, hq⟩ := List.mem_flatMap.1 q
      obtain ⟨m, hm2⟩ := List.getElem?_of_mem hp
      obtain ⟨_, _, r2, _⟩ := h.stp m p.1 p.2 (c[m]'(by rw [h.len]; exact (List.getElem?_eq_some_iff.1 hm2).1)) hm2 (List.getElem?_eq_getElem _)
      have l1 := r2.box.lt
      have l2 := r2.ltw
      simp only [List.mem_cons, List.not_mem_nil, or_false] at hq
      omega
    · rw [if_neg e] at hsj
      obtain ⟨bs, cs, r, f1, f2, f3, n⟩ := h.stp j g2 b2 s hj hsj
      obtain ⟨n1, n2, n3, n4⟩ := wrL_ne h.nd hi hj e
      exact ⟨bs, cs, r.keep hy.size (hy.block _ r.box.lt (fun q => q.elim n1 n2)) (hy.block _ r.ltw (fun q => q.elim n3 n4)) (ho _ r.lts n), .inl f1, .inl f2, .inl f3, n⟩
  · rcases List.mem_or_eq_of_mem_set hm with hm | rfl
    · exact h.ok s hm
    · exact hk
end
theorem set_app (D t : List Stp) (s s' : Stp) : (D ++ s :: t).set D.length s' = D ++ [s'] ++ t := by
  induction D with
  | nil => rfl
  | cons d D ih => simp only [List.cons_append, List.length_cons, List.set_cons_succ, ih]
theorem see_good {c : List Stp} (h : ChnG c) {s : Stp} (hs : s ∈ c) {x : Int} (hx : In32 x) (left : Int) : ∃ t, t ≤ 32 ∧ StpOk t (seeS s x left) := by
  obtain ⟨t, h1, h2⟩ := h s hs
  exact ⟨t, h1, seeS_ok h2 hx left⟩

end Go.Proofs.Ytecdcmjeiogenaa

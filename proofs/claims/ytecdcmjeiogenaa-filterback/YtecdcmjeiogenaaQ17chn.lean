/- Own text: the program's chains in memory. -/
import Derived.Test.YtecdcmjeiogenaaQ17see
import Derived.Test.YtecdcmjeiogenaaR17chn
namespace Go.Proofs.Ytecdcmjeiogenaa
open Go.RowKit
set_option linter.unusedSimpArgs false
set_option linter.unusedVariables false

/-- Where a step of the program's lies: the first step's box; a filter's box, its weights, numbers and pulls. -/
structure Dsc where
  tp : Bool
  g : Nat
  bw : Nat
  bn : Nat
  bp : Nat
def Dsc.ow : Dsc → List Nat
  | ⟨false, g, _, _, _⟩ => [g]
  | ⟨true, g, bw, bn, bp⟩ => [g, bw, bn, bp]
def Dsc.val : Dsc → Value
  | ⟨false, g, _, _, _⟩ => .iface 48 (.pointer (some ⟨g, 0, none⟩))
  | ⟨true, g, _, _, _⟩ => .iface 51 (.pointer (some ⟨g, 0, none⟩))
def DAt (w : World) : Dsc → Stp → Prop
  | ⟨false, g, _, _, _⟩, s => LastAt w g s
  | ⟨true, g, bw, bn, bp⟩, s => TapAt w g bw bn bp s
def owL (Q : List Dsc) : List Nat := Q.flatMap Dsc.ow
theorem owL_mem {Q : List Dsc} {i : Nat} {d : Dsc} (h : Q[i]? = some d) {k : Nat} (hk : k ∈ d.ow) : k ∈ owL Q := List.mem_flatMap.2 ⟨d, List.mem_of_getElem? h, hk⟩
theorem owL_ne {Q : List Dsc} (hn : (owL Q).Nodup) {i j : Nat} {d e : Dsc} (h : Q[i]? = some d) (h2 : Q[j]? = some e) (hij : i ≠ j) {k : Nat} (hk : k ∈ d.ow) : k ∉ e.ow := by
  induction Q generalizing i j with
  | nil => simp at h
  | cons q Q ih =>
    have hn2 : (q.ow ++ owL Q).Nodup := hn
    obtain ⟨_, n2, n3⟩ := List.nodup_append.1 hn2
    cases i with
    | zero =>
      cases j with
      | zero => exact absurd rfl hij
      | succ j =>
        simp only [List.getElem?_cons_zero, Option.some.injEq] at h
        subst h
        intro q2
        exact n3 k hk k (owL_mem (Q := Q) (i := j) (by simpa using h2) q2) rfl
    | succ i =>
      cases j with
      | zero =>
        simp only [List.getElem?_cons_zero, Option.some.injEq] at h2
        subst h2
        intro q2
        exact n3 k q2 k (owL_mem (Q := Q) (i := i) (by simpa using h) hk) rfl
      | succ j => exact ih n2 (i := i) (j := j) (by simpa using h) (by simpa using h2) (fun e => hij (by rw [e]))
theorem DAt.lt {w : World} {d : Dsc} {s : Stp} (h : DAt w d s) : ∀ k ∈ d.ow, k < w.heap.size := by
  intro k hk
  obtain ⟨tp, g, bw, bn, bp⟩ := d
  cases tp with
  | false => simp only [Dsc.ow, List.mem_cons, List.not_mem_nil, or_false] at hk; rw [hk]; exact (show LastAt w g s from h).box.lt
  | true =>
    have h : TapAt w g bw bn bp s := h
    simp only [Dsc.ow, List.mem_cons, List.not_mem_nil, or_false] at hk
    rcases hk with rfl | rfl | rfl | rfl
    · exact h.box.lt
    · exact h.wts.lt
    · exact h.nums.lt
    · exact h.pulls.lt
theorem DAt.keep {w w' : World} {d : Dsc} {s : Stp} (h : DAt w d s) (hk : ∀ k ∈ d.ow, w'.heap[k]? = w.heap[k]?) : DAt w' d s := by
  obtain ⟨tp, g, bw, bn, bp⟩ := d
  cases tp with
  | false => exact LastAt.keep h (hk g (by simp [Dsc.ow]))
  | true => exact TapAt.keep h (hk g (by simp [Dsc.ow])) (hk bw (by simp [Dsc.ow])) (hk bn (by simp [Dsc.ow])) (hk bp (by simp [Dsc.ow]))
/-- A chain of the program's in memory. -/
structure PChn (w : World) (fp : Nat → Prop) (pc : Nat) (ao : Option Addr) (cap : Nat) (Q : List Dsc) (c : List Stp) : Prop where
  len : c.length = Q.length
  few : Q.length ≤ 1000
  box : Box w pc #[.slice ao Q.length cap] 47
  fpc : fp pc
  row : ∀ (i : Nat) (d : Dsc), Q[i]? = some d → ∃ b, ao = some ⟨b, 0, none⟩ ∧ fp b ∧ b ∉ owL Q ∧ w.cell? ⟨b, i, none⟩ = some d.val
  stp : ∀ (i : Nat) (d : Dsc) (s : Stp), Q[i]? = some d → c[i]? = some s → DAt w d s ∧ ∀ k ∈ d.ow, fp k
  nd : (owL Q).Nodup
  npc : pc ∉ owL Q
  ok : ChnG c
/-- The program's chain at an address. -/
def VCh (w : World) (p : Addr) (fp : Nat → Prop) (c : List Stp) : Prop := ∃ pc ao cap Q, p = ⟨pc, 0, none⟩ ∧ PChn w fp pc ao cap Q c
section
variable {w w' : World} {fp fp2 : Nat → Prop} {pc : Nat} {ao : Option Addr} {cap : Nat} {Q : List Dsc} {c : List Stp}
theorem PChn.keep (h : PChn w fp pc ao cap Q c) (hk : ∀ k, k < w.heap.size → fp k → w'.heap[k]? = w.heap[k]?) (hf : ∀ k, fp k → fp2 k) : PChn w' fp2 pc ao cap Q c := by
  refine ⟨h.len, h.few, ⟨(hk _ h.box.lt h.fpc).trans h.box.h⟩, hf _ h.fpc, fun i d hi => ?_, fun i d s hi hs => ?_, h.nd, h.npc, h.ok⟩
  · obtain ⟨b, e, f, n, r⟩ := h.row i d hi
    exact ⟨b, e, hf _ f, n, (World.cell?_of_block (w := w) (hk b (lt_cell r) f)).trans r⟩
  · obtain ⟨r, f⟩ := h.stp i d s hi hs
    exact ⟨r.keep (fun k q => hk k (r.lt k q) (f k q)), fun k q => hf _ (f k q)⟩
/-- A step is another one. -/
theorem PChn.step (h : PChn w fp pc ao cap Q c) {i : Nat} {d : Dsc} {s s' : Stp} (hi : Q[i]? = some d) (hsi : c[i]? = some s) (hs : DAt w' d s') (hy : Stays (fun b => b ∈ d.ow) w w') (hk : ∃ t, t ≤ 32 ∧ StpOk t s') : PChn w' (grew fp w w') pc ao cap Q (c.set i s') := by
  have ho : ∀ k, k < w.heap.size → k ∉ owL Q → w'.heap[k]? = w.heap[k]? := fun k h1 h2 => hy.block k h1 (fun e => h2 (owL_mem hi e))
  refine ⟨by rw [List.length_set]; exact h.len, h.few, ⟨(ho _ h.box.lt h.npc).trans h.box.h⟩, .inl h.fpc, fun j d2 hj => ?_, fun j d2 s2 hj hsj => ?_, h.nd, h.npc, fun s2 hm => ?_⟩
  · obtain ⟨b, e, f, n, r⟩ := h.row j d2 hj
    exact ⟨b, e, .inl f, n, (World.cell?_of_block (w := w) (ho b (lt_cell r) n)).trans r⟩
  · have hjl : j < c.length := by rw [h.len]; exact (List.getElem?_eq_some_iff.1 hj).1
    rw [List.getElem?_set] at hsj
    by_cases e : i = j
    · subst e
      rw [if_pos rfl, if_pos hjl] at hsj
      injection hsj with hsj
      subst hsj
      rw [hi] at hj
      injection hj with hj
      subst hj
      exact ⟨hs, fun k q => .inl ((h.stp i d s hi hsi).2 k q)⟩
    · rw [if_neg e] at hsj
      obtain ⟨r, f⟩ := h.stp j d2 s2 hj hsj
      exact ⟨r.keep (fun k q => hy.block k (r.lt k q) (owL_ne h.nd hj hi (fun q => e q.symm) q)), fun k q => .inl (f k q)⟩
  · rcases List.mem_or_eq_of_mem_set hm with hm | rfl
    · exact h.ok s2 hm
    · exact hk
end
theorem see_goodS {c : List Stp} (h : ChnG c) {s : Stp} (hs : s ∈ c) {x : Int} (hx : In32 x) (left : Int) : ∃ t, t ≤ 32 ∧ StpOk t (seeS s x left) := by
  obtain ⟨t, h1, h2⟩ := h s hs
  exact ⟨t, h1, seeS_ok h2 hx left⟩

end Go.Proofs.Ytecdcmjeiogenaa

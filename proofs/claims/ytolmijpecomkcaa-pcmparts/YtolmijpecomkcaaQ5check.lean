/- Own text: the program's Check, what its closure says, sample by sample. -/
import Derived.Test.YtolmijpecomkcaaQ5turn
namespace Go.Proofs.Ytolmijpecomkcaa
open Go.RowKit
set_option linter.unusedSimpArgs false
set_option linter.unusedVariables false

/-- The closure that Check hands on: is it a sample of the width? -/
theorem checkC_spec (p : Pcm) (ao : Option Addr) (cap : Nat) (w0 w : World) (h4 : 4 ≤ p.wd) (h32 : p.wd ≤ 32) (hB : Bx w0 p ao cap w) (b o : Nat) (n : Int) (hc : w.cell? ⟨b, o, none⟩ = some (.int .i64 n)) :
    Calls Try.prog 27 #[.pointer (some ⟨b, o, none⟩), .pointer (some ⟨w0.heap.size, 0, none⟩)] w fun e w' => e = .returned (.bool (sampB n p.wd)) ∧ ∃ q, w' = w.drewN q := by
  have d2 := hB.c2
  have ks := isSample_spec n p.wd h4 h32
  generalize hs : sampB n p.wd = sb at *
  clear hs
  have hb : w0.heap.size < w.heap.size := lt_of_block hB.box
  clear hB
  go_enter Try.func27, Try.ntmps27
  go_wp2_with fail
  go_quiet ((go_at_call 28; exact Calls.quiet_of_same (ks _)))
  go_wp2_with fail
  go_ret
  exact ⟨rfl, _, rfl⟩

theorem row_len (p : Pcm) (he : evenB p = true) : (p.pl.length : Int) = p.ch ∧ ∀ k, k < p.pl.length → (p.pl.getD k []).length = lenP p := by
  unfold evenB at he
  rw [Bool.and_eq_true] at he
  refine ⟨of_decide_eq_true he.1, fun k hk => ?_⟩
  by_cases h : (p.pl.getD k []).length = lenP p
  · exact h
  · have := odd_at p.pl (lenP p) k hk h
    rw [this] at he
    exact absurd he.2 (by simp)
theorem check_uneven (p : Pcm) (h : (mayB p.rate p.ch p.wd && evenB p) = false) : checkN p = 50 := by
  unfold checkN
  by_cases hh : (headB p && p.pl.all (planeB p)) = true
  · exfalso
    rw [Bool.and_eq_true] at hh
    have hp := head_parts p hh.1
    have ha := hh.2
    rw [List.all_eq_true] at ha
    have e1 : mayB p.rate p.ch p.wd = true := decide_eq_true (by omega)
    have e2 : oddB p.pl (lenP p) = false := odd_none p.pl (lenP p) (fun i hi => by
      have hm : p.pl.getD i [] ∈ p.pl := by
        rw [List.getD_eq_getElem?_getD, List.getElem?_eq_getElem hi]
        exact List.getElem_mem hi
      have := ha _ hm
      unfold planeB at this
      rw [Bool.and_eq_true] at this
      exact of_decide_eq_true this.1)
    have e3 : evenB p = true := by
      unfold evenB
      rw [e2, decide_eq_true hp.2.2.2.2.2.2]
      rfl
    rw [e1, e3] at h
    exact absurd h (by simp)
  · rw [if_neg hh]
theorem check_samples (p : Pcm) (h : (mayB p.rate p.ch p.wd && evenB p) = true) (hs : ∀ i k, i < lenP p → k < p.pl.length → sampB ((p.pl.getD k []).getD i 0) p.wd = true) : checkN p = if 1048576 < lenP p then 5 else 0 := by
  rw [Bool.and_eq_true] at h
  obtain ⟨h1, h2⟩ := row_len p h.2
  have hm := of_decide_eq_true h.1
  refine check_all p (decide_eq_true (by omega)) fun k hk => plane_all p _ (h2 k hk) fun i hi => hs i k ?_ hk
  rw [h2 k hk] at hi
  exact hi
theorem check_bad (p : Pcm) (h : (mayB p.rate p.ch p.wd && evenB p) = true) (i k : Nat) (hi : i < lenP p) (hk : k < p.pl.length) (hs : sampB ((p.pl.getD k []).getD i 0) p.wd = false) : checkN p = 50 := by
  rw [Bool.and_eq_true] at h
  obtain ⟨h1, h2⟩ := row_len p h.2
  exact check_plane p k hk (plane_samp p _ i (by rw [h2 k hk]; exact hi) hs)

theorem split_t (c i k j l : Nat) (hk : k < c) (hl : l < c) (h : j * c + l < i * c + k + 1) (hne : ¬ (j = i ∧ l = k)) : j * c + l < i * c + k := by
  have : j * c + l ≠ i * c + k := by
    intro e
    have e1 : (j * c + l) / c = j := by rw [Nat.mul_comm, Nat.mul_add_div (by omega), Nat.div_eq_of_lt hl]; omega
    have e2 : (i * c + k) / c = i := by rw [Nat.mul_comm, Nat.mul_add_div (by omega), Nat.div_eq_of_lt hk]; omega
    have e3 : j = i := by rw [← e1, e, e2]
    subst e3
    exact hne ⟨rfl, by omega⟩
  omega

/-- All samples ahead of the t-th are such. -/
def goodTo (p : Pcm) (c t : Nat) : Prop := ∀ j l, j < lenP p → l < c → j * c + l < t → sampB ((p.pl.getD l []).getD j 0) p.wd = true
def badOne (p : Pcm) : Prop := ∃ i k, i < lenP p ∧ k < p.pl.length ∧ sampB ((p.pl.getD k []).getD i 0) p.wd = false

set_option maxHeartbeats 1600000 in
theorem checkTurn (p : Pcm) (b off cap : Nat) (w : World) (hr : RowsAt w (some ⟨b, off, none⟩) p.pl) (hh : (mayB p.rate p.ch p.wd && evenB p) = true) :
    ∃ ra rc, Turn b off (lenP p) p.pl.length ra rc 27 #[.pointer (some ⟨w.heap.size, 0, none⟩)] (fun t wx => goodTo p p.pl.length t ∧ Bx w p (some ⟨b, off, none⟩) cap wx) (fun wx => badOne p ∧ Bx w p (some ⟨b, off, none⟩) cap wx) := by
  have hh2 := hh
  rw [Bool.and_eq_true] at hh2
  obtain ⟨h1, h2⟩ := row_len p hh2.2
  have hm := of_decide_eq_true hh2.1
  have hrow : ∀ k, k < p.pl.length → ∃ a c, (∀ wx, Below w.heap.size w wx → wx.cell? ⟨b, off + k, none⟩ = some (.slice a (lenP p) c)) ∧ IntsAt w a (p.pl.getD k []) := fun k hk => by
    obtain ⟨b1, off1, a, c, e, _, hcell, hints⟩ := hr.at k hk
    have e' : b = b1 ∧ off = off1 := by
      injection e with e
      injection e with e1 e2
      exact ⟨e1, e2⟩
    obtain ⟨rfl, rfl⟩ := e'
    rw [h2 k hk] at hcell
    exact ⟨a, c, hcell, hints⟩
  let ra : Nat → Option Addr := fun k => if h : k < p.pl.length then Classical.choose (hrow k h) else none
  have hra : ∀ k (h : k < p.pl.length), ∃ c, (∀ wx, Below w.heap.size w wx → wx.cell? ⟨b, off + k, none⟩ = some (.slice (ra k) (lenP p) c)) ∧ IntsAt w (ra k) (p.pl.getD k []) := fun k h => by
    have e : ra k = Classical.choose (hrow k h) := dif_pos h
    rw [e]
    exact Classical.choose_spec (hrow k h)
  let rc : Nat → Nat := fun k => if h : k < p.pl.length then Classical.choose (hra k h) else 0
  have hrc : ∀ k (h : k < p.pl.length), (∀ wx, Below w.heap.size w wx → wx.cell? ⟨b, off + k, none⟩ = some (.slice (ra k) (lenP p) (rc k))) ∧ IntsAt w (ra k) (p.pl.getD k []) := fun k h => by
    have e : rc k = Classical.choose (hra k h) := dif_pos h
    rw [e]
    exact Classical.choose_spec (hra k h)
  refine ⟨ra, rc, fun t wx hI k hk => (hrc k hk).1 wx hI.2.below, fun h0 k hk => ?_, fun i k wx hi hk hI b' o' he => ?_⟩
  · obtain ⟨b', o', e, _⟩ := (hrc k hk).2.lies (by rw [h2 k hk]; exact h0)
    exact ⟨b', o', e⟩
  · obtain ⟨b2, o2, e, hcell, _, _⟩ := (hrc k hk).2.at i (by rw [h2 k hk]; exact hi)
    rw [he] at e
    have e' : b' = b2 ∧ o' = o2 := by
      injection e with e
      injection e with e1 e2
      exact ⟨e1, e2⟩
    obtain ⟨rfl, rfl⟩ := e'
    refine (checkC_spec p _ cap w wx (by omega) (by omega) hI.2 b' (o' + i) _ (hcell wx hI.2.below)).mono ?_
    rintro e w' ⟨rfl, q, rfl⟩
    cases hs : sampB ((p.pl.getD k []).getD i 0) p.wd with
    | true =>
      refine Or.inl ⟨rfl, fun j l hj hl ht => ?_, hI.2.drewN q⟩
      by_cases hjl : j = i ∧ l = k
      · obtain ⟨rfl, rfl⟩ := hjl
        exact hs
      · exact hI.1 j l hj hl (split_t _ i k j l hk hl ht hjl)
    | false => exact Or.inr ⟨rfl, ⟨i, k, hi, hk, hs⟩, hI.2.drewN q⟩

end Go.Proofs.Ytolmijpecomkcaa

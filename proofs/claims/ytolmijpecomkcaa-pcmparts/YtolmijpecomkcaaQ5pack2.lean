/- Own text: what Pack's closure does, sample by sample. -/
import Derived.Test.YtolmijpecomkcaaQ5pack
namespace Go.Proofs.Ytolmijpecomkcaa
open Go.RowKit
set_option linter.unusedSimpArgs false
set_option linter.unusedVariables false

/-- Planes that are all as long: where they lie. -/
theorem planes_of (xs : List (List Int)) (n b off : Nat) (w : World) (hr : RowsAt w (some ⟨b, off, none⟩) xs) (h2 : ∀ k, k < xs.length → (xs.getD k []).length = n) :
    ∃ (ra : Nat → Option Addr) (rc : Nat → Nat), ∀ k, k < xs.length → (∀ wx, Below w.heap.size w wx → wx.cell? ⟨b, off + k, none⟩ = some (.slice (ra k) n (rc k))) ∧ IntsAt w (ra k) (xs.getD k []) := by
  have hrow : ∀ k, k < xs.length → ∃ a c, (∀ wx, Below w.heap.size w wx → wx.cell? ⟨b, off + k, none⟩ = some (.slice a n c)) ∧ IntsAt w a (xs.getD k []) := fun k hk => by
    obtain ⟨b1, off1, a, c, e, _, hcell, hints⟩ := hr.at k hk
    have e' : b = b1 ∧ off = off1 := by
      injection e with e
      injection e with e1 e2
      exact ⟨e1, e2⟩
    obtain ⟨rfl, rfl⟩ := e'
    rw [h2 k hk] at hcell
    exact ⟨a, c, hcell, hints⟩
  let ra : Nat → Option Addr := fun k => if h : k < xs.length then Classical.choose (hrow k h) else none
  have hra : ∀ k (h : k < xs.length), ∃ c, (∀ wx, Below w.heap.size w wx → wx.cell? ⟨b, off + k, none⟩ = some (.slice (ra k) n c)) ∧ IntsAt w (ra k) (xs.getD k []) := fun k h => by
    have e : ra k = Classical.choose (hrow k h) := dif_pos h
    rw [e]
    exact Classical.choose_spec (hrow k h)
  let rc : Nat → Nat := fun k => if h : k < xs.length then Classical.choose (hra k h) else 0
  refine ⟨ra, rc, fun k h => ?_⟩
  have e : rc k = Classical.choose (hra k h) := dif_pos h
  rw [e]
  exact Classical.choose_spec (hra k h)

def packT (p : Pcm) (big uns : Bool) (c : Nat) : Nat → List Nat
  | 0 => []
  | t + 1 => packT p big uns c t ++ codeL big p.wd uns ((p.pl.getD (t % c) []).getD (t / c) 0)
theorem packT_frame (p : Pcm) (big uns : Bool) (i : Nat) (h0 : packT p big uns p.ch.toNat (i * p.ch.toNat) = packL p big uns i) : ∀ k, k ≤ p.ch.toNat → packT p big uns p.ch.toNat (i * p.ch.toNat + k) = packL p big uns i ++ frameL p big uns i k
  | 0, _ => by rw [Nat.add_zero, h0]; show _ = _ ++ []; rw [List.append_nil]
  | k + 1, hk => by
    rw [← Nat.add_assoc, packT, packT_frame p big uns i h0 k (by omega), frameL_succ, List.append_assoc]
    have e1 : (i * p.ch.toNat + k) % p.ch.toNat = k := by rw [Nat.mul_comm, Nat.mul_add_mod, Nat.mod_eq_of_lt (by omega)]
    have e2 : (i * p.ch.toNat + k) / p.ch.toNat = i := by rw [Nat.mul_comm, Nat.mul_add_div (by omega), Nat.div_eq_of_lt (by omega), Nat.add_zero]
    rw [e1, e2]
theorem packT_full (p : Pcm) (big uns : Bool) : ∀ i, packT p big uns p.ch.toNat (i * p.ch.toNat) = packL p big uns i
  | 0 => by rw [Nat.zero_mul]; rfl
  | i + 1 => by rw [Nat.succ_mul, packT_frame p big uns i (packT_full p big uns i) _ (Nat.le_refl _), packL_succ]
theorem packT_length (p : Pcm) (big uns : Bool) (c : Nat) : ∀ t, (packT p big uns c t).length = t * nby p.wd
  | 0 => by rw [Nat.zero_mul]; rfl
  | t + 1 => by rw [packT, List.length_append, packT_length p big uns c t, codeL_length, Nat.succ_mul]

/-- Pack's answer. -/
def pakN (p : Pcm) (big uns : Bool) : ByteArray := if checkN p = 0 then textOf (packL p big uns (lenP p)) else ⟨#[]⟩

theorem ok_parts (p : Pcm) (hc : checkN p = 0) : (mayB p.rate p.ch p.wd && evenB p) = true ∧ lenP p ≤ 1048576 ∧ (∀ k, k < p.pl.length → (p.pl.getD k []).length = lenP p) ∧ (p.pl.length = p.ch.toNat) ∧ (∀ i k, i < lenP p → k < p.pl.length → sampB ((p.pl.getD k []).getD i 0) p.wd = true) := by
  have hh : (mayB p.rate p.ch p.wd && evenB p) = true := by
    cases h : (mayB p.rate p.ch p.wd && evenB p) with
    | true => rfl
    | false => rw [check_uneven p h] at hc; exact absurd hc (by decide)
  have hsm : ∀ i k, i < lenP p → k < p.pl.length → sampB ((p.pl.getD k []).getD i 0) p.wd = true := fun i k hi hk => by
    cases h : sampB ((p.pl.getD k []).getD i 0) p.wd with
    | true => rfl
    | false => rw [check_bad p hh i k hi hk h] at hc; exact absurd hc (by decide)
  have hl : lenP p ≤ 1048576 := by
    rw [check_samples p hh hsm] at hc
    by_cases h : 1048576 < lenP p
    · rw [if_pos h] at hc; exact absurd hc (by decide)
    · omega
  have hh2 := hh
  rw [Bool.and_eq_true] at hh2
  obtain ⟨h1, h2⟩ := row_len p hh2.2
  exact ⟨hh, hl, h2, by omega, hsm⟩

set_option maxHeartbeats 1600000 in
theorem packTurn (p : Pcm) (b off : Nat) (big uns : Bool) (w : World) (hr : RowsAt w (some ⟨b, off, none⟩) p.pl) (hc : checkN p = 0) (C S : Nat) :
    ∃ ra rc, Turn b off (lenP p) p.pl.length ra rc 40 #[.pointer (some ⟨S, 0, none⟩), .pointer (some ⟨C, 0, none⟩)] (fun t wx => t ≤ lenP p * p.pl.length ∧ Pw w C S p.wd big uns (packT p big uns p.pl.length t) wx) (fun wx => False) := by
  obtain ⟨hh, hl, h2, hch, hsm⟩ := ok_parts p hc
  have hm := check_head_ok p hc
  have hnb := nby_range p.wd (by omega) (by omega)
  obtain ⟨ra, rc, hrc⟩ := planes_of p.pl (lenP p) b off w hr h2
  refine ⟨ra, rc, fun t wx hI k hk => (hrc k hk).1 wx hI.2.below, fun h0 k hk => ?_, fun i k wx hi hk hI b' o' he => ?_⟩
  · obtain ⟨b', o', e, _⟩ := (hrc k hk).2.lies (by rw [h2 k hk]; exact h0)
    exact ⟨b', o', e⟩
  · obtain ⟨b2, o2, e, hcell, _, _⟩ := (hrc k hk).2.at i (by rw [h2 k hk]; exact hi)
    rw [he] at e
    have e' : b' = b2 ∧ o' = o2 := by
      injection e with e
      injection e with e1 e2
      exact ⟨e1, e2⟩
    obtain ⟨rfl, rfl⟩ := e'
    have hcw := hcell w (Below.refl _ _)
    have hlt : i * p.pl.length + k < lenP p * p.pl.length := by
      have : i * p.pl.length + k < (i + 1) * p.pl.length := by rw [Nat.succ_mul]; omega
      exact Nat.lt_of_lt_of_le this (Nat.mul_le_mul_right _ hi)
    have hbig : lenP p * p.pl.length ≤ 1048576 * 8 := Nat.mul_le_mul hl (by omega)
    have e1 : (i * p.pl.length + k) % p.pl.length = k := by rw [Nat.mul_comm, Nat.mul_add_mod, Nat.mod_eq_of_lt hk]
    have e2 : (i * p.pl.length + k) / p.pl.length = i := by rw [Nat.mul_comm, Nat.mul_add_div (by omega), Nat.div_eq_of_lt hk, Nat.add_zero]
    refine (packC_spec w wx C S p.wd big uns _ _ b' (o' + i) (by omega) (by omega) (hsm i k hi hk) ?_ hI.2 (lt_cell hcw) hcw).mono ?_
    · rw [packT_length]
      exact Nat.le_trans (Nat.mul_le_mul (Nat.le_trans (Nat.le_of_lt hlt) hbig) hnb.2.1) (by decide)
    · rintro e w' ⟨rfl, h⟩
      refine Or.inl ⟨rfl, hlt, ?_⟩
      show Pw w C S p.wd big uns (packT p big uns p.pl.length (i * p.pl.length + k) ++ codeL big p.wd uns ((p.pl.getD ((i * p.pl.length + k) % p.pl.length) []).getD ((i * p.pl.length + k) / p.pl.length) 0)) w'
      rw [e1, e2]
      exact h

/-- What Pack keeps ahead of its closure: the samples, the cell's ways, a builder that was not written. -/
structure Pg (w0 : World) (C S : Nat) (wd : Int) (big uns : Bool) (w : World) : Prop where
  cell : w.heap[C]? = some (.cells (cellC wd big uns) 60 (0, 0))
  bld : w.heap[S]? = some (.cells #[.pointer none, .slice none 0 0] 69 (0, 0))
  lo : w0.heap.size ≤ C
  lt : C < S
  below : Below w0.heap.size w0 w
section
variable {w0 w w' : World} {C S : Nat} {wd : Int} {big uns : Bool}
theorem Pg.next (h : Pg w0 C S wd big uns w) (hB : Below w.heap.size w w') : Pg w0 C S wd big uns w' :=
  ⟨by rw [hB.block _ (lt_of_block h.cell)]; exact h.cell, by rw [hB.block _ (lt_of_block h.bld)]; exact h.bld, h.lo, h.lt, h.below.trans (hB.mono h.below.size)⟩
theorem Pg.c1 (h : Pg w0 C S wd big uns w) : w.cell? ⟨C, 1, none⟩ = some (.int .i64 (nby wd : Int)) := by rw [cell_of_row _ _ _ _ _ _ h.cell]; rfl
theorem Pg.grow (h : Pg w0 C S wd big uns w) (n : Nat) (hn : n ≤ 281474976710656) :
    Calls Try.prog 39 #[.pointer (some ⟨S, 0, none⟩), .int .i64 (n : Int)] w fun e w' => e = .returned (.tuple #[]) ∧ Pw w0 C S wd big uns [] w' := by
  have hlt := lt_of_block h.bld
  refine (grow_spec S S n w (Nat.le_refl _) h.bld (Nat.le_of_lt hlt) hn).mono ?_
  rintro e w' ⟨rfl, h1, h2⟩
  exact ⟨rfl, by rw [h2.block _ h.lt]; exact h.cell, h1, h.lo, h.lt, h.below.trans (h2.mono (by have := h.lo; have := h.lt; omega))⟩
theorem Pw.string {l : List Nat} (h : Pw w0 C S wd big uns l w) : Calls Try.prog 43 #[.pointer (some ⟨S, 0, none⟩)] w fun e w' => e = .returned (.string (textOf l)) ∧ Below w0.heap.size w0 w' := by
  have hlt := h.bld.lt
  refine (string_spec S S (textOf l).data.toList w (Or.inr h.bld) (Nat.le_of_lt hlt)).mono ?_
  rintro e w' ⟨rfl, h2⟩
  exact ⟨rfl, h.below.trans (h2.mono (by have := h.lo; have := h.lt; omega))⟩
end

end Go.Proofs.Ytolmijpecomkcaa

/- Own text: samples as plain data, and where they lie in memory. the walks of the document's Len, Sample. the walk of the document's Check. -/
import Derived.Below
import Derived.WalkKit
import Derived.Deep.OwnRows
import Derived.Test.YtfnkdahocehilaaRows
import Derived.Deep.Draws
import Derived.Laws.Bits64
import Derived.Laws.BitsAllLaws
import Derived.WalkLawsBesides
import Derived.RegionTactic
import Derived.Deep.QuietTactic
import Derived.BigQuiet
import Derived.Outline
import Derived.Deep.RegionHeld
namespace Go.Proofs.Ytfnkdahocehilaa
open Go.RowKit
set_option linter.unusedSimpArgs false
set_option linter.unusedVariables false

/-- Samples: what the document's chapter 5 calls a PCM. -/
structure Pcm where
  rate : Int
  ch : Int
  wd : Int
  pl : List (List Int)

def lenP (p : Pcm) : Nat := (p.pl.getD 0 []).length
def sampB (n w : Int) : Bool := decide (-(2 ^ (w - 1).toNat) ≤ n ∧ n < 2 ^ (w - 1).toNat)
def headB (p : Pcm) : Bool := decide (1 ≤ p.rate ∧ p.rate ≤ 655350 ∧ 1 ≤ p.ch ∧ p.ch ≤ 8 ∧ 4 ≤ p.wd ∧ p.wd ≤ 32 ∧ (p.pl.length : Int) = p.ch)
def planeB (p : Pcm) (l : List Int) : Bool := decide (l.length = lenP p) && l.all (fun n => sampB n p.wd)
/-- Check's answer. -/
def checkN (p : Pcm) : Int := if headB p && p.pl.all (planeB p) then (if 1048576 < lenP p then 5 else 0) else 50
def formatB (f : Int) : Bool := decide (1 ≤ f ∧ f ≤ 5)
def fitB (f w : Int) : Bool := if f = 1 ∨ f = 2 then decide (w % 8 = 0) else if f = 3 ∨ f = 4 then decide (w ≤ 24) else decide (8 ≤ w ∧ w ≤ 24)
/-- Fits' answer. -/
def fitsN (f : Int) (p : Pcm) : Int := if formatB f then (if checkN p = 0 then (if fitB f p.wd then 0 else 4) else checkN p) else 1

/-- A list of numbers in memory. -/
structure IntsAt (w : World) (ao : Option Addr) (l : List Int) : Prop where
  len : l.length ≤ 17592186044415
  num : ∀ n ∈ l, -9223372036854775808 ≤ n ∧ n ≤ 9223372036854775807
  lies : 0 < l.length → ∃ b off, ao = some ⟨b, off, none⟩ ∧ ∀ j, j < l.length → w.cell? ⟨b, off + j, none⟩ = some (.int .i64 (l.getD j 0))

/-- A list of such lists. -/
structure RowsAt (w : World) (ao : Option Addr) (xs : List (List Int)) : Prop where
  len : xs.length ≤ 5864062014805
  lies : 0 < xs.length → ∃ b off, ao = some ⟨b, off, none⟩ ∧ ∀ i, i < xs.length → ∃ a c, w.cell? ⟨b, off + i, none⟩ = some (.slice a (xs.getD i []).length c) ∧ (xs.getD i []).length ≤ c ∧ (a = none → c = 0) ∧ IntsAt w a (xs.getD i [])

/-- Numbers that are an int's. -/
structure Fair (p : Pcm) : Prop where
  r1 : -9223372036854775808 ≤ p.rate
  r2 : p.rate ≤ 9223372036854775807
  c1 : -9223372036854775808 ≤ p.ch
  c2 : p.ch ≤ 9223372036854775807
  w1 : -9223372036854775808 ≤ p.wd
  w2 : p.wd ≤ 9223372036854775807

/-- A PCM's value. -/
abbrev pcmC (p : Pcm) (ao : Option Addr) (cap : Nat) : Array Value := #[.int .i64 p.rate, .int .i64 p.ch, .int .i64 p.wd, .slice ao p.pl.length cap]
abbrev pcmV (p : Pcm) (ao : Option Addr) (cap : Nat) : Value := .agg (pcmC p ao cap)

theorem lt_cell {w : World} {a : Addr} {v : Value} (h : w.cell? a = some v) : a.block < w.heap.size := World.block_lt_of_cell? w a h

theorem IntsAt.keep {w w' : World} {ao : Option Addr} {l : List Int} (h : IntsAt w ao l) (hb : ∀ k, k < w.heap.size → w'.heap[k]? = w.heap[k]?) : IntsAt w' ao l := by
  refine ⟨h.len, h.num, fun h0 => ?_⟩
  obtain ⟨b, off, e, hc⟩ := h.lies h0
  refine ⟨b, off, e, fun j hj => ?_⟩
  have h1 := hc j hj
  have h2 := lt_cell h1
  rw [← h1]
  exact World.cell?_of_block (w := w) (hb b h2)

theorem RowsAt.keep {w w' : World} {ao : Option Addr} {xs : List (List Int)} (h : RowsAt w ao xs) (hb : ∀ k, k < w.heap.size → w'.heap[k]? = w.heap[k]?) : RowsAt w' ao xs := by
  refine ⟨h.len, fun h0 => ?_⟩
  obtain ⟨b, off, e, hc⟩ := h.lies h0
  refine ⟨b, off, e, fun i hi => ?_⟩
  obtain ⟨a, c, h1, h5, h6, h2⟩ := hc i hi
  refine ⟨a, c, ?_, h5, h6, h2.keep hb⟩
  have h3 := lt_cell h1
  rw [← h1]
  exact World.cell?_of_block (w := w) (hb b h3)

theorem RowsAt.below {w w' : World} {ao : Option Addr} {xs : List (List Int)} (h : RowsAt w ao xs) (hb : Below w.heap.size w w') : RowsAt w' ao xs := h.keep hb.block
theorem IntsAt.below {w w' : World} {ao : Option Addr} {xs : List Int} (h : IntsAt w ao xs) (hb : Below w.heap.size w w') : IntsAt w' ao xs := h.keep hb.block

theorem all_false {α : Type} {l : List α} {f : α → Bool} {d : α} {i : Nat} (hi : i < l.length) (h : f (l.getD i d) = false) : l.all f = false := by
  rw [List.all_eq_false]
  refine ⟨l.getD i d, ?_, by rw [h]; decide⟩
  rw [List.getD_eq_getElem?_getD, List.getElem?_eq_getElem hi]
  exact List.getElem_mem hi
theorem all_true {α : Type} {l : List α} {f : α → Bool} {d : α} (h : ∀ i, i < l.length → f (l.getD i d) = true) : l.all f = true := by
  rw [List.all_eq_true]
  intro x hx
  obtain ⟨i, hi, rfl⟩ := List.mem_iff_getElem.1 hx
  have := h i hi
  rwa [List.getD_eq_getElem?_getD, List.getElem?_eq_getElem hi] at this

theorem check_head (p : Pcm) (h : headB p = false) : checkN p = 50 := by unfold checkN; rw [h]; rfl
theorem check_plane (p : Pcm) (i : Nat) (hi : i < p.pl.length) (h : planeB p (p.pl.getD i []) = false) : checkN p = 50 := by
  unfold checkN
  rw [all_false hi h, Bool.and_false]
  rfl
theorem check_all (p : Pcm) (h : headB p = true) (hp : ∀ i, i < p.pl.length → planeB p (p.pl.getD i []) = true) : checkN p = if 1048576 < lenP p then 5 else 0 := by
  unfold checkN
  rw [h, all_true hp]
  rfl
theorem plane_len (p : Pcm) (l : List Int) (h : ¬ l.length = lenP p) : planeB p l = false := by
  unfold planeB
  rw [decide_eq_false h]
  rfl
theorem plane_samp (p : Pcm) (l : List Int) (k : Nat) (hk : k < l.length) (h : sampB (l.getD k 0) p.wd = false) : planeB p l = false := by
  unfold planeB
  rw [all_false hk h, Bool.and_false]
theorem plane_all (p : Pcm) (l : List Int) (h : l.length = lenP p) (hs : ∀ k, k < l.length → sampB (l.getD k 0) p.wd = true) : planeB p l = true := by
  unfold planeB
  rw [decide_eq_true h, all_true hs]
  rfl
theorem head_parts (p : Pcm) (h : headB p = true) : 1 ≤ p.rate ∧ p.rate ≤ 655350 ∧ 1 ≤ p.ch ∧ p.ch ≤ 8 ∧ 4 ≤ p.wd ∧ p.wd ≤ 32 ∧ (p.pl.length : Int) = p.ch := of_decide_eq_true h

end Go.Proofs.Ytfnkdahocehilaa

namespace Go.Proofs.Ytfnkdahocehilaa
open Go.RowKit
set_option linter.unusedSimpArgs false
set_option linter.unusedVariables false

set_option maxRecDepth 20000 in
set_option maxHeartbeats 1600000 in
theorem rlen_spec (p : Pcm) (ao : Option Addr) (cap : Nat) (w : World) (hr : RowsAt w ao p.pl) :
    Calls Try.prog 52 #[pcmV p ao cap] w fun e w' => e = .returned (.int .i64 (lenP p : Int)) ∧ Below w.heap.size w w' := by
  have hl := hr.len
  by_cases h0 : p.pl.length = 0
  · have e0 : lenP p = 0 := by
      unfold lenP
      rw [List.getD_eq_getElem?_getD, List.getElem?_eq_none (by omega)]
      rfl
    rw [e0]
    go_enter Try.func52, Try.ntmps52
    go_wp2
    go_ret
    exact ⟨rfl, (Below.refl _ _).alloc (Nat.le_refl _) _⟩
  · obtain ⟨b, off, rfl, hc⟩ := hr.lies (by omega)
    obtain ⟨a, c, h1, _, _, h2⟩ := hc 0 (by omega)
    have hb := lt_cell h1
    simp only at hb
    have hl2 := h2.len
    have e0 : (p.pl.getD 0 []).length = lenP p := rfl
    rw [e0, Nat.add_zero] at h1
    rw [e0] at hl2
    generalize lenP p = n at *
    clear hc h2 e0
    go_enter Try.func52, Try.ntmps52
    go_wp2
    go_ret
    exact ⟨rfl, (Below.refl _ _).alloc (Nat.le_refl _) _⟩

theorem pow31 (k : Nat) (h : k ≤ 31) : (2 : Int) ^ k ≤ 2147483648 ∧ (1 : Int) ≤ 2 ^ k := by
  have h1 : (2 : Nat) ^ k ≤ 2 ^ 31 := Nat.pow_le_pow_right (by decide) h
  have h2 : 0 < (2 : Nat) ^ k := Nat.pow_pos (by decide)
  have e : (2 : Int) ^ k = ((2 ^ k : Nat) : Int) := by simp
  have e2 : (2 : Nat) ^ 31 = 2147483648 := by decide
  rw [e]
  omega

set_option maxRecDepth 20000 in
set_option maxHeartbeats 1600000 in
theorem rsample_spec (n wd : Int) (h4 : 4 ≤ wd) (h32 : wd ≤ 32) (w : World) :
    Calls Try.prog 53 #[.int .i64 n, .int .i64 wd] w fun e w' => e = .returned (.bool (sampB n wd)) ∧ w' = w := by
  obtain ⟨hp1, hp2⟩ := pow31 (wd - 1).toNat (by omega)
  unfold sampB
  have hk : ((wd - 1).toNat : Int) = wd - 1 := by omega
  generalize hkk : (wd - 1).toNat = k at *
  have hkk' : (wd - 1).toNat = k := hkk
  generalize hH : (2 : Int) ^ k = h at *
  by_cases h1 : -h ≤ n
  · by_cases h2 : n < h
    · have hd : decide (-h ≤ n ∧ n < h) = true := decide_eq_true ⟨h1, h2⟩
      rw [hd]
      go_enter Try.func53, Try.ntmps53
      go_wp2
      go_ret
      exact ⟨rfl, rfl⟩
    · have hd : decide (-h ≤ n ∧ n < h) = false := decide_eq_false (fun c => h2 c.2)
      rw [hd]
      go_enter Try.func53, Try.ntmps53
      go_wp2
      go_ret
      exact ⟨rfl, rfl⟩
  · have hd : decide (-h ≤ n ∧ n < h) = false := decide_eq_false (fun c => h1 c.1)
    rw [hd]
    go_enter Try.func53, Try.ntmps53
    go_wp2
    go_ret
    exact ⟨rfl, rfl⟩

/-- The samples, boxed, and all that was there. -/
structure Bx (w0 : World) (p : Pcm) (ao : Option Addr) (cap : Nat) (w : World) : Prop where
  box : w.heap[w0.heap.size]? = some (.cells (pcmC p ao cap) 24 (0, 0))
  below : Below w0.heap.size w0 w
theorem Bx.next {w0 w w' : World} {p : Pcm} {ao : Option Addr} {cap : Nat} (h : Bx w0 p ao cap w) (hB : Below w.heap.size w w') : Bx w0 p ao cap w' :=
  ⟨by rw [hB.block _ (lt_of_block h.box)]; exact h.box, h.below.trans (hB.mono h.below.size)⟩
theorem Bx.drewN {w0 w : World} {p : Pcm} {ao : Option Addr} {cap : Nat} (h : Bx w0 p ao cap w) (n : Nat) : Bx w0 p ao cap (w.drewN n) :=
  ⟨h.box, ⟨h.below.os, h.below.tape, h.below.output, h.below.size, h.below.block⟩⟩
theorem Bx.c0 {w0 w : World} {p : Pcm} {ao : Option Addr} {cap : Nat} (h : Bx w0 p ao cap w) : w.cell? ⟨w0.heap.size, 0, none⟩ = some (.int .i64 p.rate) := by rw [cell_of_row _ _ _ _ _ _ h.box]; rfl
theorem Bx.c1 {w0 w : World} {p : Pcm} {ao : Option Addr} {cap : Nat} (h : Bx w0 p ao cap w) : w.cell? ⟨w0.heap.size, 1, none⟩ = some (.int .i64 p.ch) := by rw [cell_of_row _ _ _ _ _ _ h.box]; rfl
theorem Bx.c2 {w0 w : World} {p : Pcm} {ao : Option Addr} {cap : Nat} (h : Bx w0 p ao cap w) : w.cell? ⟨w0.heap.size, 2, none⟩ = some (.int .i64 p.wd) := by rw [cell_of_row _ _ _ _ _ _ h.box]; rfl
theorem Bx.c3 {w0 w : World} {p : Pcm} {ao : Option Addr} {cap : Nat} (h : Bx w0 p ao cap w) : w.cell? ⟨w0.heap.size, 3, none⟩ = some (.slice ao p.pl.length cap) := by rw [cell_of_row _ _ _ _ _ _ h.box]; rfl
theorem Bx.new (w : World) (p : Pcm) (ao : Option Addr) (cap : Nat) : Bx w p ao cap (w.alloc (.cells (pcmC p ao cap) 24)) := ⟨heap_alloc_new _ _, (Below.refl _ _).alloc (Nat.le_refl _) _⟩

set_option maxRecDepth 20000 in
set_option maxHeartbeats 3200000 in
theorem rcheck_no (p : Pcm) (ao : Option Addr) (cap : Nat) (w : World) (hr : RowsAt w ao p.pl) (hh : headB p = false) :
    Calls Try.prog 25 #[pcmV p ao cap] w fun e w' => e = .returned (.int .i64 50) ∧ Below w.heap.size w w' := by
  have hl := hr.len
  clear hr
  have hn := of_decide_eq_false hh
  clear hh
  by_cases g0 : p.rate < 1
  · clear hn
    go_enter Try.func25, Try.ntmps25
    go_wp2
    go_ret
    exact ⟨rfl, (Below.refl _ _).alloc (Nat.le_refl _) _⟩
  · skip
    by_cases g1 : 655350 < p.rate
    · clear hn
      go_enter Try.func25, Try.ntmps25
      go_wp2
      go_ret
      exact ⟨rfl, (Below.refl _ _).alloc (Nat.le_refl _) _⟩
    · skip
      by_cases g2 : p.ch < 1
      · clear hn
        go_enter Try.func25, Try.ntmps25
        go_wp2
        go_ret
        exact ⟨rfl, (Below.refl _ _).alloc (Nat.le_refl _) _⟩
      · skip
        by_cases g3 : 8 < p.ch
        · clear hn
          go_enter Try.func25, Try.ntmps25
          go_wp2
          go_ret
          exact ⟨rfl, (Below.refl _ _).alloc (Nat.le_refl _) _⟩
        · skip
          by_cases g4 : p.wd < 4
          · clear hn
            go_enter Try.func25, Try.ntmps25
            go_wp2
            go_ret
            exact ⟨rfl, (Below.refl _ _).alloc (Nat.le_refl _) _⟩
          · skip
            by_cases g5 : 32 < p.wd
            · clear hn
              go_enter Try.func25, Try.ntmps25
              go_wp2
              go_ret
              exact ⟨rfl, (Below.refl _ _).alloc (Nat.le_refl _) _⟩
            · skip
              by_cases g6 : ¬ (p.pl.length : Int) = p.ch
              · clear hn
                go_enter Try.func25, Try.ntmps25
                go_wp2
                go_ret
                exact ⟨rfl, (Below.refl _ _).alloc (Nat.le_refl _) _⟩
              · skip
                exact absurd ⟨by omega, by omega, by omega, by omega, by omega, by omega, by omega⟩ hn

end Go.Proofs.Ytfnkdahocehilaa

namespace Go.Proofs.Ytfnkdahocehilaa
open Go.RowKit
set_option linter.unusedSimpArgs false
set_option linter.unusedVariables false

/-- The i-th list and its cells, wherever memory has only grown. -/
theorem RowsAt.at {w0 : World} {ao : Option Addr} {xs : List (List Int)} (h : RowsAt w0 ao xs) (i : Nat) (hi : i < xs.length) :
    ∃ b off a c, ao = some ⟨b, off, none⟩ ∧ (xs.getD i []).length ≤ 17592186044415 ∧ (∀ w, Below w0.heap.size w0 w → w.cell? ⟨b, off + i, none⟩ = some (.slice a (xs.getD i []).length c)) ∧ IntsAt w0 a (xs.getD i []) := by
  obtain ⟨b, off, e, hc⟩ := h.lies (by omega)
  obtain ⟨a, c, h1, _, _, h2⟩ := hc i hi
  refine ⟨b, off, a, c, e, h2.len, fun w hw => ?_, h2⟩
  have h3 := lt_cell h1
  rw [← h1]
  exact World.cell?_of_block (w := w0) (hw.block b h3)
theorem RowsAt.at2 {w0 : World} {ao : Option Addr} {xs : List (List Int)} (h : RowsAt w0 ao xs) (i : Nat) (hi : i < xs.length) :
    ∃ b off a c, ao = some ⟨b, off, none⟩ ∧ (xs.getD i []).length ≤ c ∧ (a = none → c = 0) ∧ (∀ w, Below w0.heap.size w0 w → w.cell? ⟨b, off + i, none⟩ = some (.slice a (xs.getD i []).length c)) ∧ IntsAt w0 a (xs.getD i []) := by
  obtain ⟨b, off, e, hc⟩ := h.lies (by omega)
  obtain ⟨a, c, h1, h5, h6, h2⟩ := hc i hi
  refine ⟨b, off, a, c, e, h5, h6, fun w hw => ?_, h2⟩
  have h3 := lt_cell h1
  rw [← h1]
  exact World.cell?_of_block (w := w0) (hw.block b h3)
theorem IntsAt.at {w0 : World} {a : Option Addr} {l : List Int} (h : IntsAt w0 a l) (k : Nat) (hk : k < l.length) :
    ∃ b off, a = some ⟨b, off, none⟩ ∧ (∀ w, Below w0.heap.size w0 w → w.cell? ⟨b, off + k, none⟩ = some (.int .i64 (l.getD k 0))) ∧ -9223372036854775808 ≤ l.getD k 0 ∧ l.getD k 0 ≤ 9223372036854775807 := by
  obtain ⟨b, off, e, hc⟩ := h.lies (by omega)
  have h1 := hc k hk
  refine ⟨b, off, e, fun w hw => ?_, ?_⟩
  · have h3 := lt_cell h1
    rw [← h1]
    exact World.cell?_of_block (w := w0) (hw.block b h3)
  · apply h.num
    rw [List.getD_eq_getElem?_getD, List.getElem?_eq_getElem hk]
    exact List.getElem_mem hk

set_option maxRecDepth 20000 in
set_option maxHeartbeats 3200000 in
theorem rcheck_yes (p : Pcm) (ao : Option Addr) (cap : Nat) (w : World) (hr : RowsAt w ao p.pl) (hh : headB p = true) :
    Calls Try.prog 25 #[pcmV p ao cap] w fun e w' => e = .returned (.int .i64 (checkN p)) ∧ Below w.heap.size w w' := by
  have hl := hr.len
  obtain ⟨r1, r2, c1, c2, w1, w2, hlen⟩ := head_parts p hh
  have HH : Hid (headB p = true) := hh
  have HR : Hid (RowsAt w ao p.pl) := hr
  have KL : Hid (∀ wx, Hid (Bx w p ao cap wx) → Calls Try.prog 52 #[pcmV p ao cap] wx fun e w' => e = .returned (.int .i64 (lenP p : Int)) ∧ Hid (Bx w p ao cap w')) := fun wx hx =>
    (rlen_spec p ao cap wx (hr.below hx.out.below)).mono fun e w' h => ⟨h.1, hx.out.next h.2⟩
  have HB0 : Hid (Bx w p ao cap (w.alloc (.cells (pcmC p ao cap) 24))) := Bx.new w p ao cap
  have hlp : lenP p ≤ 17592186044415 := by
    obtain ⟨_, _, _, _, _, h1, _, _⟩ := hr.at 0 (by omega)
    exact h1
  clear hr hh
  go_enter Try.func25, Try.ntmps25
  go_wp2_with fail
  generalize hwa : w.alloc _ = wa
  have HA : Hid (Bx w p ao cap wa) := by
    rw [← hwa]
    exact HB0.out
  clear hwa HB0
  go_loopw [3] (fun t wr => ∃ i : Nat, i ≤ p.pl.length ∧ t = .int .i64 (i : Int) ∧ (∀ j, j < i → planeB p (p.pl.getD j []) = true) ∧ Bx w p ao cap wr) (fun t _ => p.pl.length - (intOf t).toNat)
  case atStart => exact ⟨0, Nat.zero_le _, rfl, fun j hj => absurd hj (Nat.not_lt_zero _), HA.out⟩
  case round =>
    clear HA
    obtain ⟨i, hi, rfl, hok, hbx⟩ := hrel
    have HO : Hid (∀ j, j < i → planeB p (p.pl.getD j []) = true) := hok
    have HB : Hid (Bx w p ao cap wr) := hbx
    clear hok hbx
    have d1 := HB.out.c1
    have d2 := HB.out.c2
    have d3 := HB.out.c3
    by_cases hlt : i < p.pl.length
    · obtain ⟨b, off, a, c, rfl, hll, hcell, hints⟩ := HR.out.at i hlt
      have hc0 := hcell wr HB.out.below
      have HC : Hid (∀ wx, Hid (Bx w p (some ⟨b, off, none⟩) cap wx) → Hid (Bx w p (some ⟨b, off, none⟩) cap wx) ∧ wx.cell? ⟨w.heap.size, 0, none⟩ = some (.int .i64 p.rate) ∧ wx.cell? ⟨w.heap.size, 1, none⟩ = some (.int .i64 p.ch) ∧ wx.cell? ⟨w.heap.size, 2, none⟩ = some (.int .i64 p.wd) ∧ wx.cell? ⟨w.heap.size, 3, none⟩ = some (.slice (some ⟨b, off, none⟩) p.pl.length cap) ∧ wx.cell? ⟨b, off + i, none⟩ = some (.slice a (p.pl.getD i []).length c)) := fun wx hx =>
        ⟨hx, hx.out.c0, hx.out.c1, hx.out.c2, hx.out.c3, hcell wx hx.out.below⟩
      have HCL : Hid (∀ wx, Below w.heap.size w wx → wx.cell? ⟨b, off + i, none⟩ = some (.slice a (p.pl.getD i []).length c)) := hcell
      have HIN : Hid (IntsAt w a (p.pl.getD i [])) := hints
      have HD : Hid (Bx w p (some ⟨b, off, none⟩) cap wr.drew) := HB.out.next ⟨rfl, rfl, rfl, Nat.le_refl _, fun _ _ => rfl⟩
      clear hcell hints
      have HPL : Hid (planeB p (p.pl.getD i []) = false → checkN p = 50) := fun h => check_plane p i hlt h
      have HLE : Hid (¬ (p.pl.getD i []).length = lenP p → planeB p (p.pl.getD i []) = false) := plane_len p _
      have HPS : Hid (∀ k, k < (p.pl.getD i []).length → sampB ((p.pl.getD i []).getD k 0) p.wd = false → planeB p (p.pl.getD i []) = false) := fun k hk h => plane_samp p _ k hk h
      have HPA : Hid ((p.pl.getD i []).length = lenP p → (∀ k, k < (p.pl.getD i []).length → sampB ((p.pl.getD i []).getD k 0) p.wd = true) → planeB p (p.pl.getD i []) = true) := plane_all p _
      generalize hL : p.pl.getD i [] = L at *
      by_cases hne : L.length = lenP p
      · have hdn : ((L.length : Int) == (lenP p : Int)) = true := by rw [hne]; exact beq_self_eq_true _
        go_wp2_with fail
        go_region_held (fun wx => Hid (Bx w p (some ⟨b, off, none⟩) cap wx) ∧ wx.cell? ⟨w.heap.size, 0, none⟩ = some (.int .i64 p.rate) ∧ wx.cell? ⟨w.heap.size, 1, none⟩ = some (.int .i64 p.ch) ∧ wx.cell? ⟨w.heap.size, 2, none⟩ = some (.int .i64 p.wd) ∧ wx.cell? ⟨w.heap.size, 3, none⟩ = some (.slice (some ⟨b, off, none⟩) p.pl.length cap) ∧ wx.cell? ⟨b, off + i, none⟩ = some (.slice a L.length c)) (exact HC.out _ (by assumption))
          (first | (go_at_call 52; refine (KL.out _ ?_).mono ?_; (first | assumption | exact (by assumption : _ ∧ _).1); rintro e w4 ⟨rfl, h4⟩))
        rename_i hX
        have HX := hX.1
        clear hX
        go_wp2_with fail
        go_loopw [4] (fun t wr' => ∃ k : Nat, k ≤ L.length ∧ t = .int .i64 (k : Int) ∧ (∀ j, j < k → sampB (L.getD j 0) p.wd = true) ∧ Bx w p (some ⟨b, off, none⟩) cap wr') (fun t _ => L.length - (intOf t).toNat)
        case atStart => exact ⟨0, Nat.zero_le _, rfl, fun j hj => absurd hj (Nat.not_lt_zero _), HX.out⟩
        case round =>
          clear HX
          obtain ⟨k, hk, rfl, hsok, hbx⟩ := hrel
          have HSO : Hid (∀ j, j < k → sampB (L.getD j 0) p.wd = true) := hsok
          have HB2 : Hid (Bx w p (some ⟨b, off, none⟩) cap wr) := hbx
          clear hsok hbx
          have e2 := HB2.out.c2
          have e3 := HB2.out.c3
          have ec := HCL.out wr HB2.out.below
          by_cases hkl : k < L.length
          · obtain ⟨b2, off2, rfl, hcell2, hn1, hn2⟩ := HIN.out.at k hkl
            have ek := hcell2 wr HB2.out.below
            have ks := rsample_spec (L.getD k 0) p.wd w1 w2
            have HPK := HPS.out k hkl
            clear hcell2
            generalize hX : L.getD k 0 = X at *
            cases hsb : sampB X p.wd with
            | true =>
              rw [hsb] at ks
              have HSX : Hid (sampB (L.getD k 0) p.wd = true) := by rw [hX]; exact hsb
              clear HPK hX hsb
              go_wp2_with fail
              go_quiet ((go_at_call 53; exact Calls.quiet_of_same (ks _)))
              go_wp2_with fail
              go_roundw
              case rel =>
                refine ⟨k + 1, by omega, by go_num, fun j hj => ?_, HB2.out.drewN _⟩
                by_cases e : j = k
                · rw [e]
                  exact HSX.out
                · exact HSO.out j (by omega)
              case measure => simp [intOf]; omega
            | false =>
              rw [hsb] at ks
              have HF : Hid (checkN p = 50) := HPL.out (HPK hsb)
              clear HPK hX hsb
              go_wp2_with fail
              go_quiet ((go_at_call 53; exact Calls.quiet_of_same (ks _)))
              go_wp2_with fail
              go_ret
              exact ⟨by rw [HF.out]; rfl, (HB2.out.drewN _).below⟩
          · have HOK : Hid (planeB p L = true) := HPA.out hne (fun j hj => HSO.out j (by omega))
            go_wp2_with fail
            go_roundw
            case rel =>
              refine ⟨i + 1, by omega, by go_num, fun j hj => ?_, HB2.out⟩
              by_cases e : j = i
              · rw [e, hL]
                exact HOK.out
              · exact HO.out j (by omega)
            case measure => simp [intOf]; omega
      · have HF : Hid (checkN p = 50) := HPL.out (HLE.out hne)
        have hdn : ((L.length : Int) == (lenP p : Int)) = false := by
          rw [beq_eq_false_iff_ne]
          omega
        go_wp2_with fail
        go_region_held (fun wx => Hid (Bx w p (some ⟨b, off, none⟩) cap wx) ∧ wx.cell? ⟨w.heap.size, 0, none⟩ = some (.int .i64 p.rate) ∧ wx.cell? ⟨w.heap.size, 1, none⟩ = some (.int .i64 p.ch) ∧ wx.cell? ⟨w.heap.size, 2, none⟩ = some (.int .i64 p.wd) ∧ wx.cell? ⟨w.heap.size, 3, none⟩ = some (.slice (some ⟨b, off, none⟩) p.pl.length cap) ∧ wx.cell? ⟨b, off + i, none⟩ = some (.slice a L.length c)) (exact HC.out _ (by assumption))
          (first | (go_at_call 52; refine (KL.out _ ?_).mono ?_; (first | assumption | exact (by assumption : _ ∧ _).1); rintro e w4 ⟨rfl, h4⟩))
        rename_i hX
        have HX := hX.1
        clear hX
        go_wp2_with fail
        go_ret
        exact ⟨by rw [HF.out]; rfl, HX.out.below⟩
    · have hcn := check_all p HH.out (fun j hj => HO.out j (by omega))
      have d0 := HB.out.c0
      have kl := KL.out wr HB
      by_cases hbig : 1048576 < lenP p
      · rw [if_pos hbig] at hcn
        have HF : Hid (checkN p = 5) := hcn
        clear hcn
        go_wp2_with fail
        refine kl.mono ?_
        rintro e w4 ⟨rfl, h4⟩
        go_wp2
        go_ret
        exact ⟨by rw [HF.out]; rfl, h4.out.below⟩
      · rw [if_neg hbig] at hcn
        have HF : Hid (checkN p = 0) := hcn
        clear hcn
        go_wp2_with fail
        refine kl.mono ?_
        rintro e w4 ⟨rfl, h4⟩
        go_wp2
        go_ret
        exact ⟨by rw [HF.out]; rfl, h4.out.below⟩

theorem rcheck_spec (p : Pcm) (ao : Option Addr) (cap : Nat) (w : World) (hr : RowsAt w ao p.pl) :
    Calls Try.prog 25 #[pcmV p ao cap] w fun e w' => e = .returned (.int .i64 (checkN p)) ∧ Below w.heap.size w w' := by
  cases hh : headB p with
  | true => exact rcheck_yes p ao cap w hr hh
  | false =>
    rw [check_head p hh]
    exact rcheck_no p ao cap w hr hh

end Go.Proofs.Ytfnkdahocehilaa

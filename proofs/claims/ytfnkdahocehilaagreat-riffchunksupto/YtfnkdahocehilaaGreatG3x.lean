/- Own text: the walks of the document's Id, from, to, num. samples as plain data, and where they lie in memory. the walks of the document's Len, Sample. -/
import Derived.Test.YtfnkdahocehilaaGreatG1x
import Derived.Test.YtfnkdahocehilaaGreatRefbytes
import Derived.Below
import Derived.WalkKit
import Derived.Deep.OwnRows
import Derived.Test.YtfnkdahocehilaaGreatRows
import Derived.Deep.Draws
import Derived.Laws.Bits64
import Derived.Laws.BitsAllLaws
import Derived.WalkLawsBesides
import Derived.RegionTactic
import Derived.Deep.QuietTactic
import Derived.BigQuiet
import Derived.Outline
import Derived.Deep.RegionHeld
namespace Go.Proofs.YtfnkdahocehilaaGreat
open Go.RowKit
set_option linter.unusedSimpArgs false
set_option linter.unusedVariables false

theorem all_byte_false (s : ByteArray) (i : Nat) (hi : i < s.size) (h : idByte (s[i]'hi).toNat = false) : idB s = false := by
  unfold idB
  have : (bytesOf s).all idByte = false := by
    rw [List.all_eq_false]
    refine ⟨(bytesOf s)[i]'(by rw [bytesOf_length]; exact hi), List.getElem_mem _, ?_⟩
    rw [bytesOf_get s i hi, h]
    decide
  rw [this]
  rfl
theorem all_byte_true (s : ByteArray) (h : ∀ i (hi : i < s.size), idByte (s[i]'hi).toNat = true) : idB s = decide (s.size = 4) := by
  unfold idB
  have : (bytesOf s).all idByte = true := by
    rw [List.all_eq_true]
    intro b hb
    obtain ⟨i, hi, rfl⟩ := List.mem_iff_getElem.1 hb
    rw [bytesOf_length] at hi
    rw [bytesOf_get s i hi]
    exact h i hi
  rw [this]
  rfl

set_option maxRecDepth 20000 in
set_option maxHeartbeats 1600000 in
theorem r6id_spec (s : ByteArray) (hs : s.size ≤ 200000000000000) (w : World) :
    Calls Tryz.prog 25 #[.string s] w fun e w' => e = .returned (.bool (idB s)) ∧ w' = w := by
  go_enter Tryz.func25, Tryz.ntmps25
  go_wp2_with fail
  go_loop [3] (fun t => ∃ k : Nat, k ≤ s.size ∧ t = .int .i64 (k : Int) ∧ ∀ i (hi : i < s.size), i < k → idByte (s[i]'hi).toNat = true) (fun t => s.size - (intOf t).toNat)
  case atStart => exact ⟨0, Nat.zero_le _, rfl, fun i hi h => absurd h (Nat.not_lt_zero _)⟩
  case round =>
    obtain ⟨k, hk, rfl, hall⟩ := hrel
    have HALL : Hid (∀ i (hi : i < s.size), i < k → idByte (s[i]'hi).toNat = true) := hall
    clear hall
    by_cases hlt : k < s.size
    · have hb : (s[k]'hlt).toNat < 256 := (s[k]'hlt).toNat_lt
      by_cases h1 : (s[k]'hlt).toNat < 32
      · have HN : Hid (idB s = false) := all_byte_false s k hlt (by unfold idByte; exact decide_eq_false (by omega))
        go_wp2_with fail
        go_ret
        exact ⟨by rw [HN.out]; rfl, rfl⟩
      · by_cases h2 : 126 < (s[k]'hlt).toNat
        · have HN : Hid (idB s = false) := all_byte_false s k hlt (by unfold idByte; exact decide_eq_false (by omega))
          go_wp2_with fail
          go_ret
          exact ⟨by rw [HN.out]; rfl, rfl⟩
        · have HA : Hid (∀ i (hi : i < s.size), i < k + 1 → idByte (s[i]'hi).toNat = true) := fun i hi h => by
            by_cases e : i = k
            · subst e
              unfold idByte
              exact decide_eq_true ⟨by omega, by omega⟩
            · exact HALL.out i hi (by omega)
          clear HALL
          go_wp2_with fail
          go_round
          case rel => exact ⟨k + 1, by omega, by go_num, HA.out⟩
          case measure => simp [intOf]; omega
    · have HY : Hid (idB s = ((s.size : Int) == 4)) := (all_byte_true s (fun i hi => HALL.out i hi (by omega))).trans (by
        rw [Bool.eq_iff_iff, decide_eq_true_iff, beq_iff_eq]
        omega)
      clear HALL
      go_wp2_with fail
      go_ret
      exact ⟨by rw [HY.out]; rfl, rfl⟩

set_option maxRecDepth 20000 in
set_option maxHeartbeats 1600000 in
theorem r6from_spec (s : ByteArray) (big : Bool) (hs : s.size ≤ 200000000000000) (w : World) :
    Calls Tryz.prog 50 #[.string s, .bool big] w fun e w' => e = .returned (.int .i64 (fromN s big)) ∧ Below w.heap.size w w' := by
  have kb := reffromBe_spec s hs
  have kl := reffromLe_spec s hs
  cases big
  · have HN : Hid (fromN s false = fromBe (bytesOf s).reverse) := rfl
    generalize fromBe (bytesOf s).reverse = n at *
    go_enter Tryz.func50, Tryz.ntmps50
    go_wp2_with fail
    refine (kl w).mono ?_
    rintro e w2 ⟨rfl, hB⟩
    go_wp2_with fail
    go_ret
    exact ⟨by rw [HN.out]; rfl, hB⟩
  · have HN : Hid (fromN s true = fromBe (bytesOf s)) := rfl
    generalize fromBe (bytesOf s) = n at *
    go_enter Tryz.func50, Tryz.ntmps50
    go_wp2_with fail
    refine (kb w).mono ?_
    rintro e w2 ⟨rfl, hB⟩
    go_wp2_with fail
    go_ret
    exact ⟨by rw [HN.out]; rfl, Below.refl _ _⟩

set_option maxRecDepth 20000 in
set_option maxHeartbeats 1600000 in
theorem r6to_spec (n : Int) (big : Bool) (h1 : -9223372036854775808 ≤ n) (h2 : n ≤ 9223372036854775807) (w : World) :
    Calls Tryz.prog 26 #[.int .i64 n, .bool big] w fun e w' => e = .returned (.string (toT n big)) ∧ Below w.heap.size w w' := by
  have kb := fun w => refbe_spec n 4 h1 h2 w
  have kl := refle_spec n 4 h1 h2 w
  cases big
  · have HN : Hid (toT n false = leT n 4) := rfl
    generalize leT n 4 = T at *
    generalize wE n 4 = E at *
    go_enter Tryz.func26, Tryz.ntmps26
    go_wp2_with fail
    refine kl.mono ?_
    rintro e w2 ⟨rfl, hB⟩
    have HB : Hid (Below w.heap.size w w2) := hB
    clear hB kl kb
    go_wp2_with fail
    go_ret
    exact ⟨by rw [HN.out]; rfl, HB.out⟩
  · have HN : Hid (toT n true = beT n 4) := rfl
    generalize leT n 4 = T at *
    generalize beT n 4 = U at *
    generalize wE n 4 = E at *
    go_enter Tryz.func26, Tryz.ntmps26
    go_wp2_with fail
    refine kl.mono ?_
    rintro e w2 ⟨rfl, hB⟩
    have HB : Hid (Below w.heap.size w w2) := hB
    have kb2 := kb w2
    clear hB kl kb
    go_wp2_with fail
    refine kb2.mono ?_
    rintro e w3 ⟨rfl, hB3⟩
    have HB3 : Hid (Below w.heap.size w w3) := HB.out.trans (hB3.mono HB.out.size)
    clear hB3 kb2
    go_wp2_with fail
    go_ret
    exact ⟨by rw [HN.out]; rfl, HB3.out⟩

set_option maxRecDepth 20000 in
set_option maxHeartbeats 1600000 in
theorem r6num_spec (s : ByteArray) (a n : Nat) (h : a + n ≤ s.size) (hs : s.size ≤ 200000000000000) (w : World) :
    Calls Tryz.prog 29 #[.string s, .int .i64 (a : Int), .int .i64 (n : Int)] w fun e w' => e = .returned (.int .i64 (numN s a n)) ∧ Below w.heap.size w w' := by
  have kl := reffromLe_spec (s.extract a (a + n)) (by rw [ext_size _ _ _ (by omega) h]; omega) w
  have hsl := slice_run s a (a + n) (by omega) h
  have HN : Hid (numN s a n = fromBe (bytesOf (s.extract a (a + n))).reverse) := rfl
  have ha : (a : Int) + (n : Int) = ((a + n : Nat) : Int) := by omega
  generalize fromBe (bytesOf (s.extract a (a + n))).reverse = m at *
  generalize s.extract a (a + n) = x at *
  generalize hb : a + n = b at *
  go_enter Tryz.func29, Tryz.ntmps29
  go_wp2_with fail
  refine kl.mono ?_
  rintro e w2 ⟨rfl, hB⟩
  go_wp2_with fail
  go_ret
  exact ⟨by rw [HN.out]; rfl, hB⟩

end Go.Proofs.YtfnkdahocehilaaGreat

namespace Go.Proofs.YtfnkdahocehilaaGreat
open Go.RowKit
set_option linter.unusedSimpArgs false
set_option linter.unusedVariables false

/-- Samples: what the document's chapter 5 calls a PCM. -/
structure Pcm where
  rate : Int
  ch : Int
  wd : Int
  pl : List (List Int)

def lenP (p : Pcm) : Nat := (p.pl.getD 0 []).length
def sampB (n w : Int) : Bool := decide (-(2 ^ (w - 1).toNat) ≤ n ∧ n < 2 ^ (w - 1).toNat)
def headB (p : Pcm) : Bool := decide (1 ≤ p.rate ∧ p.rate ≤ 655350 ∧ 1 ≤ p.ch ∧ p.ch ≤ 8 ∧ 4 ≤ p.wd ∧ p.wd ≤ 32 ∧ (p.pl.length : Int) = p.ch)
def planeB (p : Pcm) (l : List Int) : Bool := decide (l.length = lenP p) && l.all (fun n => sampB n p.wd)
/-- Check's answer. -/
def checkN (p : Pcm) : Int := if headB p && p.pl.all (planeB p) then (if 1048576 < lenP p then 5 else 0) else 50
def formatB (f : Int) : Bool := decide (1 ≤ f ∧ f ≤ 5)
def fitB (f w : Int) : Bool := if f = 1 ∨ f = 2 then decide (w % 8 = 0) else if f = 3 ∨ f = 4 then decide (w ≤ 24) else decide (8 ≤ w ∧ w ≤ 24)
/-- Fits' answer. -/
def fitsN (f : Int) (p : Pcm) : Int := if formatB f then (if checkN p = 0 then (if fitB f p.wd then 0 else 4) else checkN p) else 1

/-- A list of numbers in memory. -/
structure IntsAt (w : World) (ao : Option Addr) (l : List Int) : Prop where
  len : l.length ≤ 17592186044415
  num : ∀ n ∈ l, -9223372036854775808 ≤ n ∧ n ≤ 9223372036854775807
  lies : 0 < l.length → ∃ b off, ao = some ⟨b, off, none⟩ ∧ ∀ j, j < l.length → w.cell? ⟨b, off + j, none⟩ = some (.int .i64 (l.getD j 0))

/-- A list of such lists. -/
structure RowsAt (w : World) (ao : Option Addr) (xs : List (List Int)) : Prop where
  len : xs.length ≤ 5864062014805
  lies : 0 < xs.length → ∃ b off, ao = some ⟨b, off, none⟩ ∧ ∀ i, i < xs.length → ∃ a c, w.cell? ⟨b, off + i, none⟩ = some (.slice a (xs.getD i []).length c) ∧ (xs.getD i []).length ≤ c ∧ (a = none → c = 0) ∧ IntsAt w a (xs.getD i [])

/-- Numbers that are an int's. -/
structure Fair (p : Pcm) : Prop where
  r1 : -9223372036854775808 ≤ p.rate
  r2 : p.rate ≤ 9223372036854775807
  c1 : -9223372036854775808 ≤ p.ch
  c2 : p.ch ≤ 9223372036854775807
  w1 : -9223372036854775808 ≤ p.wd
  w2 : p.wd ≤ 9223372036854775807

/-- A PCM's value. -/
abbrev pcmC (p : Pcm) (ao : Option Addr) (cap : Nat) : Array Value := #[.int .i64 p.rate, .int .i64 p.ch, .int .i64 p.wd, .slice ao p.pl.length cap]
abbrev pcmV (p : Pcm) (ao : Option Addr) (cap : Nat) : Value := .agg (pcmC p ao cap)

theorem lt_cell {w : World} {a : Addr} {v : Value} (h : w.cell? a = some v) : a.block < w.heap.size := World.block_lt_of_cell? w a h

theorem IntsAt.keep {w w' : World} {ao : Option Addr} {l : List Int} (h : IntsAt w ao l) (hb : ∀ k, k < w.heap.size → w'.heap[k]? = w.heap[k]?) : IntsAt w' ao l := by
  refine ⟨h.len, h.num, fun h0 => ?_⟩
  obtain ⟨b, off, e, hc⟩ := h.lies h0
  refine ⟨b, off, e, fun j hj => ?_⟩
  have h1 := hc j hj
  have h2 := lt_cell h1
  rw [← h1]
  exact World.cell?_of_block (w := w) (hb b h2)

theorem RowsAt.keep {w w' : World} {ao : Option Addr} {xs : List (List Int)} (h : RowsAt w ao xs) (hb : ∀ k, k < w.heap.size → w'.heap[k]? = w.heap[k]?) : RowsAt w' ao xs := by
  refine ⟨h.len, fun h0 => ?_⟩
  obtain ⟨b, off, e, hc⟩ := h.lies h0
  refine ⟨b, off, e, fun i hi => ?_⟩
  obtain ⟨a, c, h1, h5, h6, h2⟩ := hc i hi
  refine ⟨a, c, ?_, h5, h6, h2.keep hb⟩
  have h3 := lt_cell h1
  rw [← h1]
  exact World.cell?_of_block (w := w) (hb b h3)

theorem RowsAt.below {w w' : World} {ao : Option Addr} {xs : List (List Int)} (h : RowsAt w ao xs) (hb : Below w.heap.size w w') : RowsAt w' ao xs := h.keep hb.block
theorem IntsAt.below {w w' : World} {ao : Option Addr} {xs : List Int} (h : IntsAt w ao xs) (hb : Below w.heap.size w w') : IntsAt w' ao xs := h.keep hb.block

theorem all_false {α : Type} {l : List α} {f : α → Bool} {d : α} {i : Nat} (hi : i < l.length) (h : f (l.getD i d) = false) : l.all f = false := by
  rw [List.all_eq_false]
  refine ⟨l.getD i d, ?_, by rw [h]; decide⟩
  rw [List.getD_eq_getElem?_getD, List.getElem?_eq_getElem hi]
  exact List.getElem_mem hi
theorem all_true {α : Type} {l : List α} {f : α → Bool} {d : α} (h : ∀ i, i < l.length → f (l.getD i d) = true) : l.all f = true := by
  rw [List.all_eq_true]
  intro x hx
  obtain ⟨i, hi, rfl⟩ := List.mem_iff_getElem.1 hx
  have := h i hi
  rwa [List.getD_eq_getElem?_getD, List.getElem?_eq_getElem hi] at this

theorem check_head (p : Pcm) (h : headB p = false) : checkN p = 50 := by unfold checkN; rw [h]; rfl
theorem check_plane (p : Pcm) (i : Nat) (hi : i < p.pl.length) (h : planeB p (p.pl.getD i []) = false) : checkN p = 50 := by
  unfold checkN
  rw [all_false hi h, Bool.and_false]
  rfl
theorem check_all (p : Pcm) (h : headB p = true) (hp : ∀ i, i < p.pl.length → planeB p (p.pl.getD i []) = true) : checkN p = if 1048576 < lenP p then 5 else 0 := by
  unfold checkN
  rw [h, all_true hp]
  rfl
theorem plane_len (p : Pcm) (l : List Int) (h : ¬ l.length = lenP p) : planeB p l = false := by
  unfold planeB
  rw [decide_eq_false h]
  rfl
theorem plane_samp (p : Pcm) (l : List Int) (k : Nat) (hk : k < l.length) (h : sampB (l.getD k 0) p.wd = false) : planeB p l = false := by
  unfold planeB
  rw [all_false hk h, Bool.and_false]
theorem plane_all (p : Pcm) (l : List Int) (h : l.length = lenP p) (hs : ∀ k, k < l.length → sampB (l.getD k 0) p.wd = true) : planeB p l = true := by
  unfold planeB
  rw [decide_eq_true h, all_true hs]
  rfl
theorem head_parts (p : Pcm) (h : headB p = true) : 1 ≤ p.rate ∧ p.rate ≤ 655350 ∧ 1 ≤ p.ch ∧ p.ch ≤ 8 ∧ 4 ≤ p.wd ∧ p.wd ≤ 32 ∧ (p.pl.length : Int) = p.ch := of_decide_eq_true h

end Go.Proofs.YtfnkdahocehilaaGreat

namespace Go.Proofs.YtfnkdahocehilaaGreat
open Go.RowKit
set_option linter.unusedSimpArgs false
set_option linter.unusedVariables false

set_option maxRecDepth 20000 in
set_option maxHeartbeats 1600000 in
theorem rlen_spec (p : Pcm) (ao : Option Addr) (cap : Nat) (w : World) (hr : RowsAt w ao p.pl) :
    Calls Tryz.prog 104 #[pcmV p ao cap] w fun e w' => e = .returned (.int .i64 (lenP p : Int)) ∧ Below w.heap.size w w' := by
  have hl := hr.len
  by_cases h0 : p.pl.length = 0
  · have e0 : lenP p = 0 := by
      unfold lenP
      rw [List.getD_eq_getElem?_getD, List.getElem?_eq_none (by omega)]
      rfl
    rw [e0]
    go_enter Tryz.func104, Tryz.ntmps104
    go_wp2
    go_ret
    exact ⟨rfl, (Below.refl _ _).alloc (Nat.le_refl _) _⟩
  · obtain ⟨b, off, rfl, hc⟩ := hr.lies (by omega)
    obtain ⟨a, c, h1, _, _, h2⟩ := hc 0 (by omega)
    have hb := lt_cell h1
    simp only at hb
    have hl2 := h2.len
    have e0 : (p.pl.getD 0 []).length = lenP p := rfl
    rw [e0, Nat.add_zero] at h1
    rw [e0] at hl2
    generalize lenP p = n at *
    clear hc h2 e0
    go_enter Tryz.func104, Tryz.ntmps104
    go_wp2
    go_ret
    exact ⟨rfl, (Below.refl _ _).alloc (Nat.le_refl _) _⟩

theorem pow31 (k : Nat) (h : k ≤ 31) : (2 : Int) ^ k ≤ 2147483648 ∧ (1 : Int) ≤ 2 ^ k := by
  have h1 : (2 : Nat) ^ k ≤ 2 ^ 31 := Nat.pow_le_pow_right (by decide) h
  have h2 : 0 < (2 : Nat) ^ k := Nat.pow_pos (by decide)
  have e : (2 : Int) ^ k = ((2 ^ k : Nat) : Int) := by simp
  have e2 : (2 : Nat) ^ 31 = 2147483648 := by decide
  rw [e]
  omega

set_option maxRecDepth 20000 in
set_option maxHeartbeats 1600000 in
theorem rsample_spec (n wd : Int) (h4 : 4 ≤ wd) (h32 : wd ≤ 32) (w : World) :
    Calls Tryz.prog 91 #[.int .i64 n, .int .i64 wd] w fun e w' => e = .returned (.bool (sampB n wd)) ∧ w' = w := by
  obtain ⟨hp1, hp2⟩ := pow31 (wd - 1).toNat (by omega)
  unfold sampB
  have hk : ((wd - 1).toNat : Int) = wd - 1 := by omega
  generalize hkk : (wd - 1).toNat = k at *
  have hkk' : (wd - 1).toNat = k := hkk
  generalize hH : (2 : Int) ^ k = h at *
  by_cases h1 : -h ≤ n
  · by_cases h2 : n < h
    · have hd : decide (-h ≤ n ∧ n < h) = true := decide_eq_true ⟨h1, h2⟩
      rw [hd]
      go_enter Tryz.func91, Tryz.ntmps91
      go_wp2
      go_ret
      exact ⟨rfl, rfl⟩
    · have hd : decide (-h ≤ n ∧ n < h) = false := decide_eq_false (fun c => h2 c.2)
      rw [hd]
      go_enter Tryz.func91, Tryz.ntmps91
      go_wp2
      go_ret
      exact ⟨rfl, rfl⟩
  · have hd : decide (-h ≤ n ∧ n < h) = false := decide_eq_false (fun c => h1 c.1)
    rw [hd]
    go_enter Tryz.func91, Tryz.ntmps91
    go_wp2
    go_ret
    exact ⟨rfl, rfl⟩

/-- The samples, boxed, and all that was there. -/
structure Bx (w0 : World) (p : Pcm) (ao : Option Addr) (cap : Nat) (w : World) : Prop where
  box : w.heap[w0.heap.size]? = some (.cells (pcmC p ao cap) 37 (0, 0))
  below : Below w0.heap.size w0 w
theorem Bx.next {w0 w w' : World} {p : Pcm} {ao : Option Addr} {cap : Nat} (h : Bx w0 p ao cap w) (hB : Below w.heap.size w w') : Bx w0 p ao cap w' :=
  ⟨by rw [hB.block _ (lt_of_block h.box)]; exact h.box, h.below.trans (hB.mono h.below.size)⟩
theorem Bx.drewN {w0 w : World} {p : Pcm} {ao : Option Addr} {cap : Nat} (h : Bx w0 p ao cap w) (n : Nat) : Bx w0 p ao cap (w.drewN n) :=
  ⟨h.box, ⟨h.below.os, h.below.tape, h.below.output, h.below.size, h.below.block⟩⟩
theorem Bx.c0 {w0 w : World} {p : Pcm} {ao : Option Addr} {cap : Nat} (h : Bx w0 p ao cap w) : w.cell? ⟨w0.heap.size, 0, none⟩ = some (.int .i64 p.rate) := by rw [cell_of_row _ _ _ _ _ _ h.box]; rfl
theorem Bx.c1 {w0 w : World} {p : Pcm} {ao : Option Addr} {cap : Nat} (h : Bx w0 p ao cap w) : w.cell? ⟨w0.heap.size, 1, none⟩ = some (.int .i64 p.ch) := by rw [cell_of_row _ _ _ _ _ _ h.box]; rfl
theorem Bx.c2 {w0 w : World} {p : Pcm} {ao : Option Addr} {cap : Nat} (h : Bx w0 p ao cap w) : w.cell? ⟨w0.heap.size, 2, none⟩ = some (.int .i64 p.wd) := by rw [cell_of_row _ _ _ _ _ _ h.box]; rfl
theorem Bx.c3 {w0 w : World} {p : Pcm} {ao : Option Addr} {cap : Nat} (h : Bx w0 p ao cap w) : w.cell? ⟨w0.heap.size, 3, none⟩ = some (.slice ao p.pl.length cap) := by rw [cell_of_row _ _ _ _ _ _ h.box]; rfl
theorem Bx.new (w : World) (p : Pcm) (ao : Option Addr) (cap : Nat) : Bx w p ao cap (w.alloc (.cells (pcmC p ao cap) 37)) := ⟨heap_alloc_new _ _, (Below.refl _ _).alloc (Nat.le_refl _) _⟩

set_option maxRecDepth 20000 in
set_option maxHeartbeats 3200000 in
theorem rcheck_no (p : Pcm) (ao : Option Addr) (cap : Nat) (w : World) (hr : RowsAt w ao p.pl) (hh : headB p = false) :
    Calls Tryz.prog 76 #[pcmV p ao cap] w fun e w' => e = .returned (.int .i64 50) ∧ Below w.heap.size w w' := by
  have hl := hr.len
  clear hr
  have hn := of_decide_eq_false hh
  clear hh
  by_cases g0 : p.rate < 1
  · clear hn
    go_enter Tryz.func76, Tryz.ntmps76
    go_wp2
    go_ret
    exact ⟨rfl, (Below.refl _ _).alloc (Nat.le_refl _) _⟩
  · skip
    by_cases g1 : 655350 < p.rate
    · clear hn
      go_enter Tryz.func76, Tryz.ntmps76
      go_wp2
      go_ret
      exact ⟨rfl, (Below.refl _ _).alloc (Nat.le_refl _) _⟩
    · skip
      by_cases g2 : p.ch < 1
      · clear hn
        go_enter Tryz.func76, Tryz.ntmps76
        go_wp2
        go_ret
        exact ⟨rfl, (Below.refl _ _).alloc (Nat.le_refl _) _⟩
      · skip
        by_cases g3 : 8 < p.ch
        · clear hn
          go_enter Tryz.func76, Tryz.ntmps76
          go_wp2
          go_ret
          exact ⟨rfl, (Below.refl _ _).alloc (Nat.le_refl _) _⟩
        · skip
          by_cases g4 : p.wd < 4
          · clear hn
            go_enter Tryz.func76, Tryz.ntmps76
            go_wp2
            go_ret
            exact ⟨rfl, (Below.refl _ _).alloc (Nat.le_refl _) _⟩
          · skip
            by_cases g5 : 32 < p.wd
            · clear hn
              go_enter Tryz.func76, Tryz.ntmps76
              go_wp2
              go_ret
              exact ⟨rfl, (Below.refl _ _).alloc (Nat.le_refl _) _⟩
            · skip
              by_cases g6 : ¬ (p.pl.length : Int) = p.ch
              · clear hn
                go_enter Tryz.func76, Tryz.ntmps76
                go_wp2
                go_ret
                exact ⟨rfl, (Below.refl _ _).alloc (Nat.le_refl _) _⟩
              · skip
                exact absurd ⟨by omega, by omega, by omega, by omega, by omega, by omega, by omega⟩ hn

end Go.Proofs.YtfnkdahocehilaaGreat

/- Own text. -/
import Derived.Test.YthgpleelpeacjaaGreatDoorF20
set_option linter.unusedSimpArgs false
set_option linter.unusedVariables false
set_option maxRecDepth 20000
set_option maxHeartbeats 12800000
namespace Go.Proofs.YthgpleelpeacjaaGreatDoor
open Go.RowKit
abbrev infC (a b c d : Int) (i : Inf) (e : Int) (s : ByteArray) : Array Value := #[.int .i64 a, .int .i64 b, .int .i64 c, .int .i64 d, .int .i64 i.rate, .int .i64 i.ch, .int .i64 i.wd, .int .i64 e, .string s]
theorem inf_cells {w : World} {g : Nat} {a b c d : Int} {i : Inf} {e : Int} {s : ByteArray} (h : w.heap[g]? = some (.cells (infC a b c d i e s) 38 (0, 0))) :
  w.cell? ⟨g, 0, none⟩ = some (.int .i64 a) ∧ w.cell? ⟨g, 1, none⟩ = some (.int .i64 b) ∧ w.cell? ⟨g, 2, none⟩ = some (.int .i64 c) ∧ w.cell? ⟨g, 3, none⟩ = some (.int .i64 d) ∧ w.cell? ⟨g, 4, none⟩ = some (.int .i64 i.rate) ∧ w.cell? ⟨g, 5, none⟩ = some (.int .i64 i.ch) ∧ w.cell? ⟨g, 6, none⟩ = some (.int .i64 i.wd) ∧ w.cell? ⟨g, 7, none⟩ = some (.int .i64 e) ∧ w.cell? ⟨g, 8, none⟩ = some (.string s) := by
 refine ⟨?_, ?_, ?_, ?_, ?_, ?_, ?_, ?_, ?_⟩ <;> (rw [cell_of_row _ _ _ _ _ _ h]; rfl)
structure FX (w : World) (f : Fm) (so : Option Addr) (sk : Nat) (a b c d : Int) (i : Inf) (e : Int) (s : ByteArray) (wx : World) : Prop where
 fb : wx.heap[w.heap.size]? = some (.cells (fmC f so sk) 41 (0, 0))
 ib : wx.heap[w.heap.size + 1]? = some (.cells (infC a b c d i e s) 38 (0, 0))
 below : Below w.heap.size w wx
section
variable {w wx w' : World} {f : Fm} {so : Option Addr} {sk : Nat} {a b c d : Int} {i : Inf} {e : Int} {s : ByteArray}
theorem FX.new (w : World) (f : Fm) (so : Option Addr) (sk : Nat) (a b c d : Int) (i : Inf) (e : Int) (s : ByteArray) : FX w f so sk a b c d i e s ((w.alloc (.cells (fmC f so sk) 41)).alloc (.cells (infC a b c d i e s) 38)) := by
 refine ⟨heap_two _ _ _, ?_, ((Below.refl _ _).alloc (Nat.le_refl _) _).alloc (by simp) _⟩
 have hh := heap_alloc_new (w.alloc (.cells (fmC f so sk) 41)) (.cells (infC a b c d i e s) 38)
 rw [show (w.alloc (.cells (fmC f so sk) 41)).heap.size = w.heap.size + 1 from by simp] at hh
 exact hh
theorem FX.next (h : FX w f so sk a b c d i e s wx) (hb : Below wx.heap.size wx w') : FX w f so sk a b c d i e s w' :=
 ⟨by rw [hb.block _ (lt_of_block h.fb)]; exact h.fb, by rw [hb.block _ (lt_of_block h.ib)]; exact h.ib, h.below.trans (hb.mono h.below.size)⟩
theorem FX.drew (h : FX w f so sk a b c d i e s wx) : FX w f so sk a b c d i e s wx.drew := h.next ⟨rfl, rfl, rfl, Nat.le_refl _, fun _ _ => rfl⟩
end
theorem siz_eq (c : Int) (h : 0 ≤ c ∧ c < 16) : sizT.getD c.toNat 0 = sizN c := by
 obtain ⟨n, rfl⟩ : ∃ n : Nat, c = n := ⟨c.toNat, by omega⟩
 have hall : ∀ n : Nat, n < 16 → sizT.getD ((n : Int).toNat) 0 = sizN (n : Int) := by decide
 exact hall n (by omega)
theorem rat_eq (c : Int) (h : 0 ≤ c ∧ c < 12) : ratT.getD c.toNat 0 = ratN c := by
 obtain ⟨n, rfl⟩ : ∃ n : Nat, c = n := ⟨c.toNat, by omega⟩
 have hall : ∀ n : Nat, n < 12 → ratT.getD ((n : Int).toNat) 0 = ratN (n : Int) := by decide
 exact hall n (by omega)
theorem rat_15 : ratT.getD (15 : Int).toNat 0 = 0 := by decide
theorem wid_eq (c : Int) (h : 0 ≤ c ∧ c < 8) : widT.getD c.toNat 0 = widN c := by
 obtain ⟨n, rfl⟩ : ∃ n : Nat, c = n := ⟨c.toNat, by omega⟩
 have hall : ∀ n : Nat, n < 8 → widT.getD ((n : Int).toNat) 0 = widN (n : Int) := by decide
 exact hall n (by omega)
theorem wid_37 : widN 3 = 0 ∧ widN 7 = 0 ∧ sizN 0 = 0 ∧ sizN 6 = 0 ∧ sizN 7 = 0 := by decide
abbrev sayZ (c size : Int) : Prop := (1 ≤ c ∧ c ≤ 15) ∧ (sizN c = size ∨ (c = 6 ∧ size ≤ 256) ∨ c = 7)
abbrev sayR (c r : Int) : Prop := c = 0 ∨ ((1 ≤ c ∧ c ≤ 11) ∧ ratN c = r) ∨ (c = 12 ∧ r % 1000 = 0 ∧ r ≤ 255000) ∨ (c = 13 ∧ r ≤ 65535) ∨ (c = 14 ∧ r % 10 = 0 ∧ r ≤ 655350)
abbrev sayW (c v : Int) : Prop := c = 0 ∨ ((1 ≤ c ∧ c ≤ 6) ∧ ¬ c = 3 ∧ widN c = v)
theorem f_sayZ (c size : Int) (hs : 1 ≤ size ∧ size ≤ 4608) (bb : Bool) (hbb : bb = true ↔ sayZ c size) (w : World) (hL : Lay w) : Calls Tryz.prog 124 #[.int .i64 c, .int .i64 size] w fun e w' => e = .returned (.bool bb) ∧ w' = w := by
 have kz := f_szb c
 have w37 := wid_37
 by_cases g : 0 ≤ c ∧ c < 16
 ·have ki := f_isIn c 16 true (tt_iff g)
  have kS := f_sizS c (size - 1) g (by omega) w hL
  clear hL
  rcases szb_all c with ⟨g6, hz⟩ | ⟨g7, hz⟩ | ⟨g6, g7, hz⟩
  ·rw [hz] at kz
   by_cases h256 : size ≤ 256
   ·have kh := f_hold1 (size - 1) true (tt_iff (by omega))
    have hv : sizS c (size - 1) = size := by unfold sizS; rw [if_pos (.inl g6)]; omega
    rw [hv] at kS
    rw [bb_yes hbb ⟨by omega, .inr (.inl ⟨g6, h256⟩)⟩]
    clear hbb hv hz w37 g g6
    go_enter Tryz.func124, Tryz.ntmps124
    go_wp2_with fail
    refine (ki _).mono ?_
    rintro e wc0 ⟨rfl, hwc0⟩
    subst hwc0
    go_wp2_with fail
    refine (kz _).mono ?_
    rintro e wc1 ⟨rfl, hwc1⟩
    subst hwc1
    go_wp2_with fail
    refine (kh _).mono ?_
    rintro e wc2 ⟨rfl, hwc2⟩
    subst hwc2
    go_wp2_with fail
    refine kS.mono ?_
    rintro e wd ⟨rfl, hwd⟩
    subst hwd
    go_wp2_with fail
    go_ret
    exact ⟨by simp, rfl⟩
   ·have kh := f_hold1 (size - 1) false (ff_iff (by omega))
    rw [bb_no hbb (fun h => by rcases h.2 with h | h | h; (rw [g6, w37.2.2.2.1] at h; omega); omega; omega)]
    clear hbb hz w37 g kS g6
    go_enter Tryz.func124, Tryz.ntmps124
    go_wp2_with fail
    refine (ki _).mono ?_
    rintro e wc0 ⟨rfl, hwc0⟩
    subst hwc0
    go_wp2_with fail
    refine (kz _).mono ?_
    rintro e wc1 ⟨rfl, hwc1⟩
    subst hwc1
    go_wp2_with fail
    refine (kh _).mono ?_
    rintro e wc2 ⟨rfl, hwc2⟩
    subst hwc2
    go_wp2_with fail
    go_ret
    exact ⟨rfl, rfl⟩
  ·rw [hz] at kz
   have kh := f_hold2 (size - 1) true (tt_iff (by omega))
   have hv : sizS c (size - 1) = size := by unfold sizS; rw [if_pos (.inr g7)]; omega
   rw [hv] at kS
   rw [bb_yes hbb ⟨by omega, .inr (.inr g7)⟩]
   clear hbb hv hz w37 g g7
   go_enter Tryz.func124, Tryz.ntmps124
   go_wp2_with fail
   refine (ki _).mono ?_
   rintro e wc0 ⟨rfl, hwc0⟩
   subst hwc0
   go_wp2_with fail
   refine (kz _).mono ?_
   rintro e wc1 ⟨rfl, hwc1⟩
   subst hwc1
   go_wp2_with fail
   refine (kh _).mono ?_
   rintro e wc2 ⟨rfl, hwc2⟩
   subst hwc2
   go_wp2_with fail
   refine kS.mono ?_
   rintro e wd ⟨rfl, hwd⟩
   subst hwd
   go_wp2_with fail
   go_ret
   exact ⟨by simp, rfl⟩
  ·rw [hz] at kz
   have kh := f_hold0 (size - 1)
   have hv : sizS c (size - 1) = sizN c := by unfold sizS; rw [if_neg (by omega), siz_eq c g]
   rw [hv] at kS
   by_cases he : sizN c = size
   ·have hbe : (sizN c == size) = true := by rw [beq_iff_eq]; exact he
    rw [bb_yes hbb ⟨⟨by
     rcases Int.lt_or_le c 1 with h | h
     ·have : c = 0 := by omega
      rw [this, w37.2.2.1] at he; omega
     ·exact h, by omega⟩, .inl he⟩]
    clear hbb hv hz w37 he
    generalize sizN c = v at *
    go_enter Tryz.func124, Tryz.ntmps124
    go_wp2_with fail
    refine (ki _).mono ?_
    rintro e wc0 ⟨rfl, hwc0⟩
    subst hwc0
    go_wp2_with fail
    refine (kz _).mono ?_
    rintro e wc1 ⟨rfl, hwc1⟩
    subst hwc1
    go_wp2_with fail
    refine (kh _).mono ?_
    rintro e wc2 ⟨rfl, hwc2⟩
    subst hwc2
    go_wp2_with fail
    refine kS.mono ?_
    rintro e wd ⟨rfl, hwd⟩
    subst hwd
    go_wp2_with fail
    go_ret
    exact ⟨rfl, rfl⟩
   ·have hbe : (sizN c == size) = false := by rw [beq_eq_false_iff_ne]; exact he
    rw [bb_no hbb (fun h => by rcases h.2 with h | h | h; exact he h; omega; omega)]
    clear hbb hv hz w37 he
    generalize sizN c = v at *
    go_enter Tryz.func124, Tryz.ntmps124
    go_wp2_with fail
    refine (ki _).mono ?_
    rintro e wc0 ⟨rfl, hwc0⟩
    subst hwc0
    go_wp2_with fail
    refine (kz _).mono ?_
    rintro e wc1 ⟨rfl, hwc1⟩
    subst hwc1
    go_wp2_with fail
    refine (kh _).mono ?_
    rintro e wc2 ⟨rfl, hwc2⟩
    subst hwc2
    go_wp2_with fail
    refine kS.mono ?_
    rintro e wd ⟨rfl, hwd⟩
    subst hwd
    go_wp2_with fail
    go_ret
    exact ⟨rfl, rfl⟩
 ·have ki := f_isIn c 16 false (ff_iff g)
  rw [bb_no hbb (fun h => g (by omega))]
  clear hbb w37 hL kz g
  go_enter Tryz.func124, Tryz.ntmps124
  go_wp2_with fail
  refine (ki _).mono ?_
  rintro e wc0 ⟨rfl, hwc0⟩
  subst hwc0
  go_wp2_with fail
  go_ret
  exact ⟨rfl, rfl⟩
theorem f_sayR12 (c rate : Int) (hs : 1 ≤ rate ∧ rate ≤ 9223372036854775807) (bb : Bool) (hbb : bb = true ↔ sayR c rate) (w : World) (hL : Lay w) (gc : c = 12) (hzu : rtb c = 1 ∧ rtu c = 1000) : Calls Tryz.prog 125 #[.int .i64 c, .int .i64 rate] w fun e w' => e = .returned (.bool bb) ∧ w' = w := by
 have kz := f_rtb c
 have ku := f_rtu c
 have g : 0 ≤ c ∧ c < 16 := by omega
 have ki := f_isIn c 16 true (tt_iff g)
 obtain ⟨hz, hu⟩ := hzu
 rw [hz] at kz
 rw [hu] at ku
 have hm : rate / 1000 * rtu c ≤ 9223372036854775807 := by rw [hu]; omega
 have kS := f_ratS c (rate / 1000) rate g (by omega) hm w hL
 have hv : ratS c (rate / 1000) rate = rate / 1000 * 1000 := by unfold ratS; rw [if_neg (by omega), if_pos (by omega), hu]
 rw [hv] at kS
 clear hL hv hz hu hm
 by_cases hh : rate / 1000 < 256
 ·have kh := f_hold1 (rate / 1000) true (tt_iff hh)
  by_cases he : rate / 1000 * 1000 = rate
  ·have hbe : (rate / 1000 * 1000 == rate) = true := by rw [beq_iff_eq]; exact he
   rw [bb_yes hbb (by unfold sayR; omega)]
   clear hbb he hh g gc
   go_enter Tryz.func125, Tryz.ntmps125
   go_wp2_with fail
   refine (ku _).mono ?_
   rintro e wc0 ⟨rfl, hwc0⟩
   subst hwc0
   go_wp2_with fail
   refine (ki _).mono ?_
   rintro e wc1 ⟨rfl, hwc1⟩
   subst hwc1
   go_wp2_with fail
   refine (kz _).mono ?_
   rintro e wc2 ⟨rfl, hwc2⟩
   subst hwc2
   go_wp2_with fail
   refine (kh _).mono ?_
   rintro e wc3 ⟨rfl, hwc3⟩
   subst hwc3
   go_wp2_with fail
   refine kS.mono ?_
   rintro e wd ⟨rfl, hwd⟩
   subst hwd
   go_wp2_with fail
   go_ret
   exact ⟨rfl, rfl⟩
  ·have hbe : (rate / 1000 * 1000 == rate) = false := by rw [beq_eq_false_iff_ne]; exact he
   rw [bb_no hbb (by unfold sayR; omega)]
   clear hbb he hh g gc
   go_enter Tryz.func125, Tryz.ntmps125
   go_wp2_with fail
   refine (ku _).mono ?_
   rintro e wc0 ⟨rfl, hwc0⟩
   subst hwc0
   go_wp2_with fail
   refine (ki _).mono ?_
   rintro e wc1 ⟨rfl, hwc1⟩
   subst hwc1
   go_wp2_with fail
   refine (kz _).mono ?_
   rintro e wc2 ⟨rfl, hwc2⟩
   subst hwc2
   go_wp2_with fail
   refine (kh _).mono ?_
   rintro e wc3 ⟨rfl, hwc3⟩
   subst hwc3
   go_wp2_with fail
   refine kS.mono ?_
   rintro e wd ⟨rfl, hwd⟩
   subst hwd
   go_wp2_with fail
   go_ret
   exact ⟨rfl, rfl⟩
 ·have kh := f_hold1 (rate / 1000) false (ff_iff hh)
  rw [bb_no hbb (by unfold sayR; omega)]
  clear hbb hh g kS gc
  go_enter Tryz.func125, Tryz.ntmps125
  go_wp2_with fail
  refine (ku _).mono ?_
  rintro e wc0 ⟨rfl, hwc0⟩
  subst hwc0
  go_wp2_with fail
  refine (ki _).mono ?_
  rintro e wc1 ⟨rfl, hwc1⟩
  subst hwc1
  go_wp2_with fail
  refine (kz _).mono ?_
  rintro e wc2 ⟨rfl, hwc2⟩
  subst hwc2
  go_wp2_with fail
  refine (kh _).mono ?_
  rintro e wc3 ⟨rfl, hwc3⟩
  subst hwc3
  go_wp2_with fail
  go_ret
  exact ⟨rfl, rfl⟩
theorem f_sayR14 (c rate : Int) (hs : 1 ≤ rate ∧ rate ≤ 9223372036854775807) (bb : Bool) (hbb : bb = true ↔ sayR c rate) (w : World) (hL : Lay w) (gc : c = 14) (hzu : rtb c = 2 ∧ rtu c = 10) : Calls Tryz.prog 125 #[.int .i64 c, .int .i64 rate] w fun e w' => e = .returned (.bool bb) ∧ w' = w := by
 have kz := f_rtb c
 have ku := f_rtu c
 have g : 0 ≤ c ∧ c < 16 := by omega
 have ki := f_isIn c 16 true (tt_iff g)
 obtain ⟨hz, hu⟩ := hzu
 rw [hz] at kz
 rw [hu] at ku
 have hm : rate / 10 * rtu c ≤ 9223372036854775807 := by rw [hu]; omega
 have kS := f_ratS c (rate / 10) rate g (by omega) hm w hL
 have hv : ratS c (rate / 10) rate = rate / 10 * 10 := by unfold ratS; rw [if_neg (by omega), if_pos (by omega), hu]
 rw [hv] at kS
 clear hL hv hz hu hm
 by_cases hh : rate / 10 < 65536
 ·have kh := f_hold2 (rate / 10) true (tt_iff hh)
  by_cases he : rate / 10 * 10 = rate
  ·have hbe : (rate / 10 * 10 == rate) = true := by rw [beq_iff_eq]; exact he
   rw [bb_yes hbb (by unfold sayR; omega)]
   clear hbb he hh g gc
   go_enter Tryz.func125, Tryz.ntmps125
   go_wp2_with fail
   refine (ku _).mono ?_
   rintro e wc0 ⟨rfl, hwc0⟩
   subst hwc0
   go_wp2_with fail
   refine (ki _).mono ?_
   rintro e wc1 ⟨rfl, hwc1⟩
   subst hwc1
   go_wp2_with fail
   refine (kz _).mono ?_
   rintro e wc2 ⟨rfl, hwc2⟩
   subst hwc2
   go_wp2_with fail
   refine (kh _).mono ?_
   rintro e wc3 ⟨rfl, hwc3⟩
   subst hwc3
   go_wp2_with fail
   refine kS.mono ?_
   rintro e wd ⟨rfl, hwd⟩
   subst hwd
   go_wp2_with fail
   go_ret
   exact ⟨rfl, rfl⟩
  ·have hbe : (rate / 10 * 10 == rate) = false := by rw [beq_eq_false_iff_ne]; exact he
   rw [bb_no hbb (by unfold sayR; omega)]
   clear hbb he hh g gc
   go_enter Tryz.func125, Tryz.ntmps125
   go_wp2_with fail
   refine (ku _).mono ?_
   rintro e wc0 ⟨rfl, hwc0⟩
   subst hwc0
   go_wp2_with fail
   refine (ki _).mono ?_
   rintro e wc1 ⟨rfl, hwc1⟩
   subst hwc1
   go_wp2_with fail
   refine (kz _).mono ?_
   rintro e wc2 ⟨rfl, hwc2⟩
   subst hwc2
   go_wp2_with fail
   refine (kh _).mono ?_
   rintro e wc3 ⟨rfl, hwc3⟩
   subst hwc3
   go_wp2_with fail
   refine kS.mono ?_
   rintro e wd ⟨rfl, hwd⟩
   subst hwd
   go_wp2_with fail
   go_ret
   exact ⟨rfl, rfl⟩
 ·have kh := f_hold2 (rate / 10) false (ff_iff hh)
  rw [bb_no hbb (by unfold sayR; omega)]
  clear hbb hh g kS gc
  go_enter Tryz.func125, Tryz.ntmps125
  go_wp2_with fail
  refine (ku _).mono ?_
  rintro e wc0 ⟨rfl, hwc0⟩
  subst hwc0
  go_wp2_with fail
  refine (ki _).mono ?_
  rintro e wc1 ⟨rfl, hwc1⟩
  subst hwc1
  go_wp2_with fail
  refine (kz _).mono ?_
  rintro e wc2 ⟨rfl, hwc2⟩
  subst hwc2
  go_wp2_with fail
  refine (kh _).mono ?_
  rintro e wc3 ⟨rfl, hwc3⟩
  subst hwc3
  go_wp2_with fail
  go_ret
  exact ⟨rfl, rfl⟩
theorem f_sayR13 (c rate : Int) (hs : 1 ≤ rate ∧ rate ≤ 9223372036854775807) (bb : Bool) (hbb : bb = true ↔ sayR c rate) (w : World) (hL : Lay w) (gc : c = 13) (hzu : rtb c = 2 ∧ rtu c = 1) : Calls Tryz.prog 125 #[.int .i64 c, .int .i64 rate] w fun e w' => e = .returned (.bool bb) ∧ w' = w := by
 have kz := f_rtb c
 have ku := f_rtu c
 have g : 0 ≤ c ∧ c < 16 := by omega
 have ki := f_isIn c 16 true (tt_iff g)
 obtain ⟨hz, hu⟩ := hzu
 rw [hz] at kz
 rw [hu] at ku
 have kS := f_ratS c rate rate g (by omega) (by rw [hu]; omega) w hL
 have hv : ratS c rate rate = rate := by unfold ratS; rw [if_neg (by omega), if_pos (by omega), hu, Int.mul_one]
 rw [hv] at kS
 have hbe : (rate == rate) = true := by rw [beq_iff_eq]
 clear hL hv hz hu
 by_cases hh : rate < 65536
 ·have kh := f_hold2 rate true (tt_iff hh)
  rw [bb_yes hbb (by unfold sayR; omega)]
  clear hbb hh g gc
  go_enter Tryz.func125, Tryz.ntmps125
  go_wp2_with fail
  refine (ku _).mono ?_
  rintro e wc0 ⟨rfl, hwc0⟩
  subst hwc0
  go_wp2_with fail
  refine (ki _).mono ?_
  rintro e wc1 ⟨rfl, hwc1⟩
  subst hwc1
  go_wp2_with fail
  refine (kz _).mono ?_
  rintro e wc2 ⟨rfl, hwc2⟩
  subst hwc2
  go_wp2_with fail
  refine (kh _).mono ?_
  rintro e wc3 ⟨rfl, hwc3⟩
  subst hwc3
  go_wp2_with fail
  refine kS.mono ?_
  rintro e wd ⟨rfl, hwd⟩
  subst hwd
  go_wp2_with fail
  go_ret
  exact ⟨rfl, rfl⟩
 ·have kh := f_hold2 rate false (ff_iff hh)
  rw [bb_no hbb (by unfold sayR; omega)]
  clear hbb hh g kS gc
  go_enter Tryz.func125, Tryz.ntmps125
  go_wp2_with fail
  refine (ku _).mono ?_
  rintro e wc0 ⟨rfl, hwc0⟩
  subst hwc0
  go_wp2_with fail
  refine (ki _).mono ?_
  rintro e wc1 ⟨rfl, hwc1⟩
  subst hwc1
  go_wp2_with fail
  refine (kz _).mono ?_
  rintro e wc2 ⟨rfl, hwc2⟩
  subst hwc2
  go_wp2_with fail
  refine (kh _).mono ?_
  rintro e wc3 ⟨rfl, hwc3⟩
  subst hwc3
  go_wp2_with fail
  go_ret
  exact ⟨rfl, rfl⟩
theorem f_sayRn (c rate : Int) (hs : 1 ≤ rate ∧ rate ≤ 9223372036854775807) (bb : Bool) (hbb : bb = true ↔ sayR c rate) (w : World) (hL : Lay w) (g1 : ¬ c = 12) (g2 : ¬ c = 13) (g3 : ¬ c = 14) (g : 0 ≤ c ∧ c < 16) (hzu : rtb c = 0 ∧ rtu c = 1) : Calls Tryz.prog 125 #[.int .i64 c, .int .i64 rate] w fun e w' => e = .returned (.bool bb) ∧ w' = w := by
 have kz := f_rtb c
 have ku := f_rtu c
 have ki := f_isIn c 16 true (tt_iff g)
 obtain ⟨hz, hu⟩ := hzu
 rw [hz] at kz
 rw [hu] at ku
 have kh := f_hold0 rate
 have kS := f_ratS c rate rate g (by omega) (by rw [hu]; omega) w hL
 by_cases g0 : c = 0
 ·have hv : ratS c rate rate = rate := by unfold ratS; rw [if_pos g0]
  rw [hv] at kS
  have hbe : (rate == rate) = true := by rw [beq_iff_eq]
  rw [bb_yes hbb (.inl g0)]
  clear hbb hL hv hz hu g0 g g1 g2 g3
  go_enter Tryz.func125, Tryz.ntmps125
  go_wp2_with fail
  refine (ku _).mono ?_
  rintro e wc0 ⟨rfl, hwc0⟩
  subst hwc0
  go_wp2_with fail
  refine (ki _).mono ?_
  rintro e wc1 ⟨rfl, hwc1⟩
  subst hwc1
  go_wp2_with fail
  refine (kz _).mono ?_
  rintro e wc2 ⟨rfl, hwc2⟩
  subst hwc2
  go_wp2_with fail
  refine (kh _).mono ?_
  rintro e wc3 ⟨rfl, hwc3⟩
  subst hwc3
  go_wp2_with fail
  refine kS.mono ?_
  rintro e wd ⟨rfl, hwd⟩
  subst hwd
  go_wp2_with fail
  go_ret
  exact ⟨rfl, rfl⟩
 ·have hv : ratS c rate rate = ratT.getD c.toNat 0 := by unfold ratS; rw [if_neg g0, if_neg (by omega)]
  have hr15 : c = 15 → ratT.getD c.toNat 0 = 0 := fun h => by rw [h]; exact rat_15
  have hrn : ¬ c = 15 → ratT.getD c.toNat 0 = ratN c := fun h => rat_eq c (by omega)
  rw [hv] at kS
  by_cases he : ratT.getD c.toNat 0 = rate
  ·have hbe : (ratT.getD c.toNat 0 == rate) = true := by rw [beq_iff_eq]; exact he
   have hn15 : ¬ c = 15 := fun h => by have := hr15 h; omega
   rw [bb_yes hbb (.inr (.inl ⟨by omega, by rw [← hrn hn15]; exact he⟩))]
   clear hbb hL hv hz hu g0 g he hr15 hrn hn15 g1 g2 g3
   generalize ratT.getD c.toNat 0 = v at *
   go_enter Tryz.func125, Tryz.ntmps125
   go_wp2_with fail
   refine (ku _).mono ?_
   rintro e wc0 ⟨rfl, hwc0⟩
   subst hwc0
   go_wp2_with fail
   refine (ki _).mono ?_
   rintro e wc1 ⟨rfl, hwc1⟩
   subst hwc1
   go_wp2_with fail
   refine (kz _).mono ?_
   rintro e wc2 ⟨rfl, hwc2⟩
   subst hwc2
   go_wp2_with fail
   refine (kh _).mono ?_
   rintro e wc3 ⟨rfl, hwc3⟩
   subst hwc3
   go_wp2_with fail
   refine kS.mono ?_
   rintro e wd ⟨rfl, hwd⟩
   subst hwd
   go_wp2_with fail
   go_ret
   exact ⟨rfl, rfl⟩
  ·have hbe : (ratT.getD c.toNat 0 == rate) = false := by rw [beq_eq_false_iff_ne]; exact he
   rw [bb_no hbb (fun h => by
    rcases h with h | h | h | h | h
    ·exact g0 h
    ·exact he (by rw [hrn (by omega)]; exact h.2)
    ·omega
    ·omega
    ·omega)]
   clear hbb hL hv hz hu g0 g he hr15 hrn g1 g2 g3
   generalize ratT.getD c.toNat 0 = v at *
   go_enter Tryz.func125, Tryz.ntmps125
   go_wp2_with fail
   refine (ku _).mono ?_
   rintro e wc0 ⟨rfl, hwc0⟩
   subst hwc0
   go_wp2_with fail
   refine (ki _).mono ?_
   rintro e wc1 ⟨rfl, hwc1⟩
   subst hwc1
   go_wp2_with fail
   refine (kz _).mono ?_
   rintro e wc2 ⟨rfl, hwc2⟩
   subst hwc2
   go_wp2_with fail
   refine (kh _).mono ?_
   rintro e wc3 ⟨rfl, hwc3⟩
   subst hwc3
   go_wp2_with fail
   refine kS.mono ?_
   rintro e wd ⟨rfl, hwd⟩
   subst hwd
   go_wp2_with fail
   go_ret
   exact ⟨rfl, rfl⟩
theorem f_sayR (c rate : Int) (hs : 1 ≤ rate ∧ rate ≤ 9223372036854775807) (bb : Bool) (hbb : bb = true ↔ sayR c rate) (w : World) (hL : Lay w) : Calls Tryz.prog 125 #[.int .i64 c, .int .i64 rate] w fun e w' => e = .returned (.bool bb) ∧ w' = w := by
 by_cases g : 0 ≤ c ∧ c < 16
 ·rcases rtb_all c with ⟨gc, hz, hu⟩ | ⟨gc, hz, hu⟩ | ⟨gc, hz, hu⟩ | ⟨g1, g2, g3, hz, hu⟩
  ·exact f_sayR12 c rate hs bb hbb w hL gc ⟨hz, hu⟩
  ·exact f_sayR13 c rate hs bb hbb w hL gc ⟨hz, hu⟩
  ·exact f_sayR14 c rate hs bb hbb w hL gc ⟨hz, hu⟩
  ·exact f_sayRn c rate hs bb hbb w hL g1 g2 g3 g ⟨hz, hu⟩
 ·have kz := f_rtb c
  have ku := f_rtu c
  have ki := f_isIn c 16 false (ff_iff g)
  have hu : rtu c = 1 := by unfold rtu; rw [if_neg (by omega), if_neg (by omega)]
  rw [hu] at ku
  rw [bb_no hbb (by unfold sayR; omega)]
  clear hbb hL kz g hu
  go_enter Tryz.func125, Tryz.ntmps125
  go_wp2_with fail
  refine (ku _).mono ?_
  rintro e wc0 ⟨rfl, hwc0⟩
  subst hwc0
  go_wp2_with fail
  refine (ki _).mono ?_
  rintro e wc1 ⟨rfl, hwc1⟩
  subst hwc1
  go_wp2_with fail
  go_ret
  exact ⟨rfl, rfl⟩
theorem f_sayW (c v : Int) (hs : 4 ≤ v ∧ v ≤ 24) (bb : Bool) (hbb : bb = true ↔ sayW c v) (w : World) (hL : Lay w) : Calls Tryz.prog 126 #[.int .i64 c, .int .i64 v] w fun e w' => e = .returned (.bool bb) ∧ w' = w := by
 have w37 := wid_37
 by_cases g : 0 ≤ c ∧ c < 8
 ·have ki := f_isIn c 8 true (tt_iff g)
  have kS := f_widS c v g w hL
  have hwe := wid_eq c g
  by_cases g0 : c = 0
  ·have hv : widS c v = v := by unfold widS; rw [if_pos g0]
   rw [hv] at kS
   have hbe : (v == v) = true := by rw [beq_iff_eq]
   rw [bb_yes hbb (.inl g0)]
   clear hbb hL hv g0 g hwe w37
   go_enter Tryz.func126, Tryz.ntmps126
   go_wp2_with fail
   refine (ki _).mono ?_
   rintro e wc0 ⟨rfl, hwc0⟩
   subst hwc0
   go_wp2_with fail
   refine kS.mono ?_
   rintro e wd ⟨rfl, hwd⟩
   subst hwd
   go_wp2_with fail
   go_ret
   exact ⟨rfl, rfl⟩
  ·have hv : widS c v = widN c := by unfold widS; rw [if_neg g0, hwe]
   rw [hv] at kS
   by_cases he : widN c = v
   ·have hbe : (widN c == v) = true := by rw [beq_iff_eq]; exact he
    rw [bb_yes hbb (.inr ⟨⟨by omega, by
     rcases Int.lt_or_le 6 c with h | h
     ·have : c = 7 := by omega
      rw [this, w37.2.1] at he; omega
     ·exact h⟩, fun h => by rw [h, w37.1] at he; omega, he⟩)]
    clear hbb hL hv g0 g hwe w37 he
    generalize widN c = u at *
    go_enter Tryz.func126, Tryz.ntmps126
    go_wp2_with fail
    refine (ki _).mono ?_
    rintro e wc0 ⟨rfl, hwc0⟩
    subst hwc0
    go_wp2_with fail
    refine kS.mono ?_
    rintro e wd ⟨rfl, hwd⟩
    subst hwd
    go_wp2_with fail
    go_ret
    exact ⟨rfl, rfl⟩
   ·have hbe : (widN c == v) = false := by rw [beq_eq_false_iff_ne]; exact he
    rw [bb_no hbb (fun h => by rcases h with h | h; exact g0 h; exact he h.2.2)]
    clear hbb hL hv g0 g hwe w37 he
    generalize widN c = u at *
    go_enter Tryz.func126, Tryz.ntmps126
    go_wp2_with fail
    refine (ki _).mono ?_
    rintro e wc0 ⟨rfl, hwc0⟩
    subst hwc0
    go_wp2_with fail
    refine kS.mono ?_
    rintro e wd ⟨rfl, hwd⟩
    subst hwd
    go_wp2_with fail
    go_ret
    exact ⟨rfl, rfl⟩
 ·have ki := f_isIn c 8 false (ff_iff g)
  rw [bb_no hbb (by unfold sayW; omega)]
  clear hbb hL g w37
  go_enter Tryz.func126, Tryz.ntmps126
  go_wp2_with fail
  refine (ki _).mono ?_
  rintro e wc0 ⟨rfl, hwc0⟩
  subst hwc0
  go_wp2_with fail
  go_ret
  exact ⟨rfl, rfl⟩
end Go.Proofs.YthgpleelpeacjaaGreatDoor

/- Own text. -/
import Derived.Test.YtfpfabmbipmipaaGreatDoorA27
set_option linter.unusedSimpArgs false
set_option linter.unusedVariables false
set_option maxRecDepth 20000
set_option maxHeartbeats 12800000
namespace Go.Proofs.YtfpfabmbipmipaaGreatDoor
open Go.RowKit
abbrev infC (a b c d : Int) (i : Inf) (e : Int) (s : ByteArray) : Array Value := #[.int .i64 a, .int .i64 b, .int .i64 c, .int .i64 d, .int .i64 i.rate, .int .i64 i.ch, .int .i64 i.wd, .int .i64 e, .string s]
theorem inf_cells {w : World} {g : Nat} {a b c d : Int} {i : Inf} {e : Int} {s : ByteArray} (h : w.heap[g]? = some (.cells (infC a b c d i e s) 26 (0, 0))) :
  w.cell? ⟨g, 0, none⟩ = some (.int .i64 a) /\ w.cell? ⟨g, 1, none⟩ = some (.int .i64 b) /\ w.cell? ⟨g, 2, none⟩ = some (.int .i64 c) /\ w.cell? ⟨g, 3, none⟩ = some (.int .i64 d) /\ w.cell? ⟨g, 4, none⟩ = some (.int .i64 i.rate) /\ w.cell? ⟨g, 5, none⟩ = some (.int .i64 i.ch) /\ w.cell? ⟨g, 6, none⟩ = some (.int .i64 i.wd) /\ w.cell? ⟨g, 7, none⟩ = some (.int .i64 e) /\ w.cell? ⟨g, 8, none⟩ = some (.string s) := by
 refine ⟨?_, ?_, ?_, ?_, ?_, ?_, ?_, ?_, ?_⟩ <;> (rw [cell_of_row _ _ _ _ _ _ h]; rfl)
structure FX (w : World) (f : Fm) (so : OA) (sk : Nat) (a b c d : Int) (i : Inf) (e : Int) (s : ByteArray) (wx : World) : Prop where
 fb : wx.heap[w.heap.size]? = some (.cells (fmC f so sk) 24 (0, 0))
 ib : wx.heap[w.heap.size + 1]? = some (.cells (infC a b c d i e s) 26 (0, 0))
 below : Lo w wx
section
variable {w wx w' : World} {f : Fm} {so : OA} {sk : Nat} {a b c d : Int} {i : Inf} {e : Int} {s : ByteArray}
theorem FX.new (w : World) (f : Fm) (so : OA) (sk : Nat) (a b c d : Int) (i : Inf) (e : Int) (s : ByteArray) : FX w f so sk a b c d i e s ((w.alloc (.cells (fmC f so sk) 24)).alloc (.cells (infC a b c d i e s) 26)) := by
 refine ⟨heap_two _ _ _, ?_, aQ.alloc (by simp) _⟩
 have hh := heap_alloc_new (w.alloc (.cells (fmC f so sk) 24)) (.cells (infC a b c d i e s) 26)
 rw [show (w.alloc (.cells (fmC f so sk) 24)).heap.size = w.heap.size + 1 from by simp] at hh
 exact hh
theorem FX.next (h : FX w f so sk a b c d i e s wx) (hb : Lo wx w') : FX w f so sk a b c d i e s w' :=
 ⟨by rw [hb.block _ (lt_of_block h.fb)]; exact h.fb, by rw [hb.block _ (lt_of_block h.ib)]; exact h.ib, h.below.trans (hb.mono h.below.size)⟩
theorem FX.drew (h : FX w f so sk a b c d i e s wx) : FX w f so sk a b c d i e s wx.drew := h.next dQ
end
theorem siz_eq (c : Int) (h : 0 <= c /\ c < 16) : sizT.getD c.toNat 0 = sizN c := by
 obtain ⟨n, rfl⟩ : ∃ n : Nat, c = n := ⟨c.toNat, by omega⟩
 have hall : ∀ n : Nat, n < 16 -> sizT.getD ((n : Int).toNat) 0 = sizN (n : Int) := by decide
 exact hall n (by omega)
theorem rat_eq (c : Int) (h : 0 <= c /\ c < 12) : ratT.getD c.toNat 0 = ratN c := by
 obtain ⟨n, rfl⟩ : ∃ n : Nat, c = n := ⟨c.toNat, by omega⟩
 have hall : ∀ n : Nat, n < 12 -> ratT.getD ((n : Int).toNat) 0 = ratN (n : Int) := by decide
 exact hall n (by omega)
theorem rat_15 : ratT.getD (15 : Int).toNat 0 = 0 := by decide
theorem wid_eq (c : Int) (h : 0 <= c /\ c < 8) : widT.getD c.toNat 0 = widN c := by
 obtain ⟨n, rfl⟩ : ∃ n : Nat, c = n := ⟨c.toNat, by omega⟩
 have hall : ∀ n : Nat, n < 8 -> widT.getD ((n : Int).toNat) 0 = widN (n : Int) := by decide
 exact hall n (by omega)
theorem wid_37 : widN 3 = 0 /\ widN 7 = 0 /\ sizN 0 = 0 /\ sizN 6 = 0 /\ sizN 7 = 0 := by decide
abbrev sayZ (c size : Int) : Prop := (1 <= c /\ c <= 15) /\ (sizN c = size ∨ (c = 6 /\ size <= 256) ∨ c = 7)
abbrev sayR (c r : Int) : Prop := c = 0 ∨ ((1 <= c /\ c <= 11) /\ ratN c = r) ∨ (c = 12 /\ r % 1000 = 0 /\ r <= 255000) ∨ (c = 13 /\ r <= 65535) ∨ (c = 14 /\ r % 10 = 0 /\ r <= 655350)
abbrev sayW (c v : Int) : Prop := c = 0 ∨ ((1 <= c /\ c <= 6) /\ ¬ c = 3 /\ widN c = v)
theorem f_sayZ (c size : Int) (hs : 1 <= size /\ size <= 4608) (bb : Bool) (hbb : bb = true ↔ sayZ c size) (w : World) (hL : Lay w) : Calls Tryz.prog 85 #[.int .i64 c, .int .i64 size] w fun e w' => e = .returned (.bool bb) /\ w' = w := by
 have kz := f_szb c
 have w37 := wid_37
 by_cases g : 0 <= c /\ c < 16
 focus
  have ki := f_isIn c 16 true (tt_iff g)
  have kS := f_sizS c (size - 1) g (by omega) w hL
  clear hL
  rcases szb_all c with ⟨g6, hz⟩ | ⟨g7, hz⟩ | ⟨g6, g7, hz⟩
  focus
   rw [hz] at kz
   by_cases h256 : size <= 256
   focus
    have kh := f_hold1 (size - 1) true (tt_iff (by omega))
    have hv : sizS c (size - 1) = size := by unfold sizS; rw [if_pos (.inl g6)]; omega
    rw [hv] at kS
    rw [bb_yes hbb ⟨by omega, .inr (.inl ⟨g6, h256⟩)⟩]
    clear hbb hv hz w37 g g6
   rotate_left
   focus
    have kh := f_hold1 (size - 1) false (ff_iff (by omega))
    rw [bb_no hbb (fun h => by rcases h.2 with h | h | h; (rw [g6, w37.2.2.2.1] at h; omega); omega; omega)]
    clear hbb hz w37 g kS g6
   rotate_left
  rotate_left 2
  focus
   rw [hz] at kz
   have kh := f_hold2 (size - 1) true (tt_iff (by omega))
   have hv : sizS c (size - 1) = size := by unfold sizS; rw [if_pos (.inr g7)]; omega
   rw [hv] at kS
   rw [bb_yes hbb ⟨by omega, .inr (.inr g7)⟩]
   clear hbb hv hz w37 g g7
  rotate_left
  focus
   rw [hz] at kz
   have kh := f_hold0 (size - 1)
   have hv : sizS c (size - 1) = sizN c := by unfold sizS; rw [if_neg (by omega), siz_eq c g]
   rw [hv] at kS
   by_cases he : sizN c = size
   focus
    have hbe : (sizN c == size) = true := by rw [beq_iff_eq]; exact he
    rw [bb_yes hbb ⟨⟨by
     rcases Int.lt_or_le c 1 with h | h
     ·have : c = 0 := by omega
      rw [this, w37.2.2.1] at he; omega
     ·exact h, by omega⟩, .inl he⟩]
    clear hbb hv hz w37 he
    generalize sizN c = v at *
   rotate_left
   focus
    have hbe : (sizN c == size) = false := by rw [beq_eq_false_iff_ne]; exact he
    rw [bb_no hbb (fun h => by rcases h.2 with h | h | h; exact he h; omega; omega)]
    clear hbb hv hz w37 he
    generalize sizN c = v at *
   rotate_left
  rotate_left 2
 rotate_left 5
 ·have ki := f_isIn c 16 false (ff_iff g)
  rw [bb_no hbb (fun h => g (by omega))]
  clear hbb w37 hL kz g
  go_enter Tryz.func85, Tryz.ntmps85
  go_wp2_with fail
  refine (ki _).mono ?_
  rintro e wc0 ⟨rfl, hwc0⟩
  subst hwc0
  go_wp2_with fail
  go_ret
  exact ⟨rfl, rfl⟩
 all_goals
  go_enter Tryz.func85, Tryz.ntmps85
  go_wp2_with fail
  refine (ki _).mono ?_
  rintro e wc0 ⟨rfl, hwc0⟩
  subst hwc0
  go_wp2_with fail
  refine (kz _).mono ?_
  rintro e wc1 ⟨rfl, hwc1⟩
  subst hwc1
  go_wp2_with fail
  refine (kh _).mono ?_
  rintro e wc2 ⟨rfl, hwc2⟩
  subst hwc2
  go_wp2_with fail
 rotate_left
 ·go_ret
  exact ⟨rfl, rfl⟩
 rotate_left 3
 all_goals
  refine kS.mono ?_
  rintro e wd ⟨rfl, hwd⟩
  subst hwd
  go_wp2_with fail
  go_ret
 ·exact ⟨by simp, rfl⟩
 ·exact ⟨by simp, rfl⟩
 ·exact ⟨rfl, rfl⟩
 ·exact ⟨rfl, rfl⟩
theorem f_sayR12 (c rate : Int) (hs : 1 <= rate /\ rate <= 9223372036854775807) (bb : Bool) (hbb : bb = true ↔ sayR c rate) (w : World) (hL : Lay w) (gc : c = 12) (hzu : rtb c = 1 /\ rtu c = 1000) : Calls Tryz.prog 86 #[.int .i64 c, .int .i64 rate] w fun e w' => e = .returned (.bool bb) /\ w' = w := by
 have kz := f_rtb c
 have ku := f_rtu c
 have g : 0 <= c /\ c < 16 := by omega
 have ki := f_isIn c 16 true (tt_iff g)
 obtain ⟨hz, hu⟩ := hzu
 rw [hz] at kz
 rw [hu] at ku
 have hm : rate / 1000 * rtu c <= 9223372036854775807 := by rw [hu]; omega
 have kS := f_ratS c (rate / 1000) rate g (by omega) hm w hL
 have hv : ratS c (rate / 1000) rate = rate / 1000 * 1000 := by unfold ratS; rw [if_neg (by omega), if_pos (by omega), hu]
 rw [hv] at kS
 clear hL hv hz hu hm
 by_cases hh : rate / 1000 < 256
 focus
  have kh := f_hold1 (rate / 1000) true (tt_iff hh)
  by_cases he : rate / 1000 * 1000 = rate
  focus
   have hbe : (rate / 1000 * 1000 == rate) = true := by rw [beq_iff_eq]; exact he
   rw [bb_yes hbb (by unfold sayR; omega)]
   clear hbb he hh g gc
  rotate_left
  focus
   have hbe : (rate / 1000 * 1000 == rate) = false := by rw [beq_eq_false_iff_ne]; exact he
   rw [bb_no hbb (by unfold sayR; omega)]
   clear hbb he hh g gc
  rotate_left
 rotate_left 2
 focus
  have kh := f_hold1 (rate / 1000) false (ff_iff hh)
  rw [bb_no hbb (by unfold sayR; omega)]
  clear hbb hh g kS gc
 rotate_left
 all_goals
  go_enter Tryz.func86, Tryz.ntmps86
  go_wp2_with fail
  refine (ku _).mono ?_
  rintro e wc0 ⟨rfl, hwc0⟩
  subst hwc0
  go_wp2_with fail
  refine (ki _).mono ?_
  rintro e wc1 ⟨rfl, hwc1⟩
  subst hwc1
  go_wp2_with fail
  refine (kz _).mono ?_
  rintro e wc2 ⟨rfl, hwc2⟩
  subst hwc2
  go_wp2_with fail
  refine (kh _).mono ?_
  rintro e wc3 ⟨rfl, hwc3⟩
  subst hwc3
  go_wp2_with fail
 ·refine kS.mono ?_
  rintro e wd ⟨rfl, hwd⟩
  subst hwd
  go_wp2_with fail
  go_ret
  exact ⟨rfl, rfl⟩
 ·refine kS.mono ?_
  rintro e wd ⟨rfl, hwd⟩
  subst hwd
  go_wp2_with fail
  go_ret
  exact ⟨rfl, rfl⟩
 ·go_ret
  exact ⟨rfl, rfl⟩
theorem f_sayR14 (c rate : Int) (hs : 1 <= rate /\ rate <= 9223372036854775807) (bb : Bool) (hbb : bb = true ↔ sayR c rate) (w : World) (hL : Lay w) (gc : c = 14) (hzu : rtb c = 2 /\ rtu c = 10) : Calls Tryz.prog 86 #[.int .i64 c, .int .i64 rate] w fun e w' => e = .returned (.bool bb) /\ w' = w := by
 have kz := f_rtb c
 have ku := f_rtu c
 have g : 0 <= c /\ c < 16 := by omega
 have ki := f_isIn c 16 true (tt_iff g)
 obtain ⟨hz, hu⟩ := hzu
 rw [hz] at kz
 rw [hu] at ku
 have hm : rate / 10 * rtu c <= 9223372036854775807 := by rw [hu]; omega
 have kS := f_ratS c (rate / 10) rate g (by omega) hm w hL
 have hv : ratS c (rate / 10) rate = rate / 10 * 10 := by unfold ratS; rw [if_neg (by omega), if_pos (by omega), hu]
 rw [hv] at kS
 clear hL hv hz hu hm
 by_cases hh : rate / 10 < 65536
 focus
  have kh := f_hold2 (rate / 10) true (tt_iff hh)
  by_cases he : rate / 10 * 10 = rate
  focus
   have hbe : (rate / 10 * 10 == rate) = true := by rw [beq_iff_eq]; exact he
   rw [bb_yes hbb (by unfold sayR; omega)]
   clear hbb he hh g gc
  rotate_left
  focus
   have hbe : (rate / 10 * 10 == rate) = false := by rw [beq_eq_false_iff_ne]; exact he
   rw [bb_no hbb (by unfold sayR; omega)]
   clear hbb he hh g gc
  rotate_left
 rotate_left 2
 focus
  have kh := f_hold2 (rate / 10) false (ff_iff hh)
  rw [bb_no hbb (by unfold sayR; omega)]
  clear hbb hh g kS gc
 rotate_left
 all_goals
  go_enter Tryz.func86, Tryz.ntmps86
  go_wp2_with fail
  refine (ku _).mono ?_
  rintro e wc0 ⟨rfl, hwc0⟩
  subst hwc0
  go_wp2_with fail
  refine (ki _).mono ?_
  rintro e wc1 ⟨rfl, hwc1⟩
  subst hwc1
  go_wp2_with fail
  refine (kz _).mono ?_
  rintro e wc2 ⟨rfl, hwc2⟩
  subst hwc2
  go_wp2_with fail
  refine (kh _).mono ?_
  rintro e wc3 ⟨rfl, hwc3⟩
  subst hwc3
  go_wp2_with fail
 ·refine kS.mono ?_
  rintro e wd ⟨rfl, hwd⟩
  subst hwd
  go_wp2_with fail
  go_ret
  exact ⟨rfl, rfl⟩
 ·refine kS.mono ?_
  rintro e wd ⟨rfl, hwd⟩
  subst hwd
  go_wp2_with fail
  go_ret
  exact ⟨rfl, rfl⟩
 ·go_ret
  exact ⟨rfl, rfl⟩
theorem f_sayR13 (c rate : Int) (hs : 1 <= rate /\ rate <= 9223372036854775807) (bb : Bool) (hbb : bb = true ↔ sayR c rate) (w : World) (hL : Lay w) (gc : c = 13) (hzu : rtb c = 2 /\ rtu c = 1) : Calls Tryz.prog 86 #[.int .i64 c, .int .i64 rate] w fun e w' => e = .returned (.bool bb) /\ w' = w := by
 have kz := f_rtb c
 have ku := f_rtu c
 have g : 0 <= c /\ c < 16 := by omega
 have ki := f_isIn c 16 true (tt_iff g)
 obtain ⟨hz, hu⟩ := hzu
 rw [hz] at kz
 rw [hu] at ku
 have kS := f_ratS c rate rate g (by omega) (by rw [hu]; omega) w hL
 have hv : ratS c rate rate = rate := by unfold ratS; rw [if_neg (by omega), if_pos (by omega), hu, Int.mul_one]
 rw [hv] at kS
 have hbe : (rate == rate) = true := by rw [beq_iff_eq]
 clear hL hv hz hu
 by_cases hh : rate < 65536
 focus
  have kh := f_hold2 rate true (tt_iff hh)
  rw [bb_yes hbb (by unfold sayR; omega)]
  clear hbb hh g gc
 rotate_left
 focus
  have kh := f_hold2 rate false (ff_iff hh)
  rw [bb_no hbb (by unfold sayR; omega)]
  clear hbb hh g kS gc
 rotate_left
 all_goals
  go_enter Tryz.func86, Tryz.ntmps86
  go_wp2_with fail
  refine (ku _).mono ?_
  rintro e wc0 ⟨rfl, hwc0⟩
  subst hwc0
  go_wp2_with fail
  refine (ki _).mono ?_
  rintro e wc1 ⟨rfl, hwc1⟩
  subst hwc1
  go_wp2_with fail
  refine (kz _).mono ?_
  rintro e wc2 ⟨rfl, hwc2⟩
  subst hwc2
  go_wp2_with fail
  refine (kh _).mono ?_
  rintro e wc3 ⟨rfl, hwc3⟩
  subst hwc3
  go_wp2_with fail
 ·refine kS.mono ?_
  rintro e wd ⟨rfl, hwd⟩
  subst hwd
  go_wp2_with fail
  go_ret
  exact ⟨rfl, rfl⟩
 ·go_ret
  exact ⟨rfl, rfl⟩
theorem f_sayRn (c rate : Int) (hs : 1 <= rate /\ rate <= 9223372036854775807) (bb : Bool) (hbb : bb = true ↔ sayR c rate) (w : World) (hL : Lay w) (g1 : ¬ c = 12) (g2 : ¬ c = 13) (g3 : ¬ c = 14) (g : 0 <= c /\ c < 16) (hzu : rtb c = 0 /\ rtu c = 1) : Calls Tryz.prog 86 #[.int .i64 c, .int .i64 rate] w fun e w' => e = .returned (.bool bb) /\ w' = w := by
 have kz := f_rtb c
 have ku := f_rtu c
 have ki := f_isIn c 16 true (tt_iff g)
 obtain ⟨hz, hu⟩ := hzu
 rw [hz] at kz
 rw [hu] at ku
 have kh := f_hold0 rate
 have kS := f_ratS c rate rate g (by omega) (by rw [hu]; omega) w hL
 by_cases g0 : c = 0
 focus
  have hv : ratS c rate rate = rate := by unfold ratS; rw [if_pos g0]
  rw [hv] at kS
  have hbe : (rate == rate) = true := by rw [beq_iff_eq]
  rw [bb_yes hbb (.inl g0)]
  clear hbb hL hv hz hu g0 g g1 g2 g3
 rotate_left
 focus
  have hv : ratS c rate rate = ratT.getD c.toNat 0 := by unfold ratS; rw [if_neg g0, if_neg (by omega)]
  have hr15 : c = 15 -> ratT.getD c.toNat 0 = 0 := fun h => by rw [h]; exact rat_15
  have hrn : ¬ c = 15 -> ratT.getD c.toNat 0 = ratN c := fun h => rat_eq c (by omega)
  rw [hv] at kS
  by_cases he : ratT.getD c.toNat 0 = rate
  focus
   have hbe : (ratT.getD c.toNat 0 == rate) = true := by rw [beq_iff_eq]; exact he
   have hn15 : ¬ c = 15 := fun h => by have := hr15 h; omega
   rw [bb_yes hbb (.inr (.inl ⟨by omega, by rw [<- hrn hn15]; exact he⟩))]
   clear hbb hL hv hz hu g0 g he hr15 hrn hn15 g1 g2 g3
   generalize ratT.getD c.toNat 0 = v at *
  rotate_left
  focus
   have hbe : (ratT.getD c.toNat 0 == rate) = false := by rw [beq_eq_false_iff_ne]; exact he
   rw [bb_no hbb (fun h => by
    rcases h with h | h | h | h | h
    ·exact g0 h
    ·exact he (by rw [hrn (by omega)]; exact h.2)
    ·omega
    ·omega
    ·omega)]
   clear hbb hL hv hz hu g0 g he hr15 hrn g1 g2 g3
   generalize ratT.getD c.toNat 0 = v at *
  rotate_left
 rotate_left 2
 all_goals
  go_enter Tryz.func86, Tryz.ntmps86
  go_wp2_with fail
  refine (ku _).mono ?_
  rintro e wc0 ⟨rfl, hwc0⟩
  subst hwc0
  go_wp2_with fail
  refine (ki _).mono ?_
  rintro e wc1 ⟨rfl, hwc1⟩
  subst hwc1
  go_wp2_with fail
  refine (kz _).mono ?_
  rintro e wc2 ⟨rfl, hwc2⟩
  subst hwc2
  go_wp2_with fail
  refine (kh _).mono ?_
  rintro e wc3 ⟨rfl, hwc3⟩
  subst hwc3
  go_wp2_with fail
  refine kS.mono ?_
  rintro e wd ⟨rfl, hwd⟩
  subst hwd
  go_wp2_with fail
  go_ret
  exact ⟨rfl, rfl⟩
theorem f_sayR (c rate : Int) (hs : 1 <= rate /\ rate <= 9223372036854775807) (bb : Bool) (hbb : bb = true ↔ sayR c rate) (w : World) (hL : Lay w) : Calls Tryz.prog 86 #[.int .i64 c, .int .i64 rate] w fun e w' => e = .returned (.bool bb) /\ w' = w := by
 by_cases g : 0 <= c /\ c < 16
 ·rcases rtb_all c with ⟨gc, hz, hu⟩ | ⟨gc, hz, hu⟩ | ⟨gc, hz, hu⟩ | ⟨g1, g2, g3, hz, hu⟩
  ·exact f_sayR12 c rate hs bb hbb w hL gc ⟨hz, hu⟩
  ·exact f_sayR13 c rate hs bb hbb w hL gc ⟨hz, hu⟩
  ·exact f_sayR14 c rate hs bb hbb w hL gc ⟨hz, hu⟩
  ·exact f_sayRn c rate hs bb hbb w hL g1 g2 g3 g ⟨hz, hu⟩
 ·have kz := f_rtb c
  have ku := f_rtu c
  have ki := f_isIn c 16 false (ff_iff g)
  have hu : rtu c = 1 := by unfold rtu; rw [if_neg (by omega), if_neg (by omega)]
  rw [hu] at ku
  rw [bb_no hbb (by unfold sayR; omega)]
  clear hbb hL kz g hu
  go_enter Tryz.func86, Tryz.ntmps86
  go_wp2_with fail
  refine (ku _).mono ?_
  rintro e wc0 ⟨rfl, hwc0⟩
  subst hwc0
  go_wp2_with fail
  refine (ki _).mono ?_
  rintro e wc1 ⟨rfl, hwc1⟩
  subst hwc1
  go_wp2_with fail
  go_ret
  exact ⟨rfl, rfl⟩
theorem f_sayW (c v : Int) (hs : 4 <= v /\ v <= 24) (bb : Bool) (hbb : bb = true ↔ sayW c v) (w : World) (hL : Lay w) : Calls Tryz.prog 87 #[.int .i64 c, .int .i64 v] w fun e w' => e = .returned (.bool bb) /\ w' = w := by
 have w37 := wid_37
 by_cases g : 0 <= c /\ c < 8
 focus
  have ki := f_isIn c 8 true (tt_iff g)
  have kS := f_widS c v g w hL
  have hwe := wid_eq c g
  by_cases g0 : c = 0
  focus
   have hv : widS c v = v := by unfold widS; rw [if_pos g0]
   rw [hv] at kS
   have hbe : (v == v) = true := by rw [beq_iff_eq]
   rw [bb_yes hbb (.inl g0)]
   clear hbb hL hv g0 g hwe w37
  rotate_left
  focus
   have hv : widS c v = widN c := by unfold widS; rw [if_neg g0, hwe]
   rw [hv] at kS
   by_cases he : widN c = v
   focus
    have hbe : (widN c == v) = true := by rw [beq_iff_eq]; exact he
    rw [bb_yes hbb (.inr ⟨⟨by omega, by
     rcases Int.lt_or_le 6 c with h | h
     ·have : c = 7 := by omega
      rw [this, w37.2.1] at he; omega
     ·exact h⟩, fun h => by rw [h, w37.1] at he; omega, he⟩)]
    clear hbb hL hv g0 g hwe w37 he
    generalize widN c = u at *
   rotate_left
   focus
    have hbe : (widN c == v) = false := by rw [beq_eq_false_iff_ne]; exact he
    rw [bb_no hbb (fun h => by rcases h with h | h; exact g0 h; exact he h.2.2)]
    clear hbb hL hv g0 g hwe w37 he
    generalize widN c = u at *
   rotate_left
  rotate_left 2
 rotate_left 3
 ·have ki := f_isIn c 8 false (ff_iff g)
  rw [bb_no hbb (by unfold sayW; omega)]
  clear hbb hL g w37
  go_enter Tryz.func87, Tryz.ntmps87
  go_wp2_with fail
  refine (ki _).mono ?_
  rintro e wc0 ⟨rfl, hwc0⟩
  subst hwc0
  go_wp2_with fail
  go_ret
  exact ⟨rfl, rfl⟩
 all_goals
  go_enter Tryz.func87, Tryz.ntmps87
  go_wp2_with fail
  refine (ki _).mono ?_
  rintro e wc0 ⟨rfl, hwc0⟩
  subst hwc0
  go_wp2_with fail
  refine kS.mono ?_
  rintro e wd ⟨rfl, hwd⟩
  subst hwd
  go_wp2_with fail
  go_ret
  exact ⟨rfl, rfl⟩
theorem unc_again (l : List Nat) : ∀ (m i n r : Nat), unc l m i n = (r, 0) -> r / 64 ^ m = n /\ (m = 0 ∨ i + m <= l.length) /\ ∀ t, t < m -> l.getD (i + t) 0 = 128 + r / 64 ^ (m - 1 - t) % 64 := by
 intro m
 induction m with
 | zero =>
  intro i n r h
  rw [unc_end] at h
  have e : n = r := congrArg Prod.fst h
  exact ⟨by rw [e, Nat.pow_zero, Nat.div_one], .inl rfl, fun t ht => absurd ht (Nat.not_lt_zero t)⟩
 | succ m ih =>
  intro i n r h
  by_cases h1 : l.length <= i
  ·rw [unc_short l m i n h1] at h
   have e : 10 = 0 := congrArg Prod.snd h
   cases e
  ·by_cases h2 : l.getD i 0 < 128 ∨ 192 <= l.getD i 0
   ·rw [unc_bad l m i n h1 h2] at h
    have e : 2 = 0 := congrArg Prod.snd h
    cases e
   ·rw [unc_step l m i n h1 h2] at h
    obtain ⟨a1, a2, a3⟩ := ih _ _ _ h
    have hr : r / 64 ^ (m + 1) = n := by
     rw [Nat.pow_succ, <- Nat.div_div_eq_div_mul, a1]
     omega
    refine ⟨hr, .inr (by omega), fun t ht => ?_⟩
    by_cases e : t = 0
    ·subst e
     rw [Nat.add_zero, show m + 1 - 1 - 0 = m by omega, a1]
     omega
    ·have h3 := a3 (t - 1) (by omega)
     rw [show i + 1 + (t - 1) = i + t by omega, show m - 1 - (t - 1) = m + 1 - 1 - t by omega] at h3
     exact h3
theorem clen_least (n k : Nat) (h1 : 1 <= k) (h7 : k <= 7) (h : n < cbound k) (hk : ¬ clen n < k) : clen n = k := by
 have := clen_le n k h1 h7 h
 omega
theorem uncode_again (l : List Nat) (hl : ∀ b ∈ l, b < 256) (n k : Nat) (h : uncode l = (n, k, 0)) : k = clen n /\ n < 68719476736 /\ k <= l.length /\ l.take k = codeL n k := by
 unfold uncode at h
 by_cases h0 : l.length = 0
 ·rw [if_pos h0] at h
  have e : 10 = 0 := congrArg (fun x => x.2.2) h
  cases e
 rw [if_neg h0] at h
 by_cases hz : hc (l.getD 0 0) = 0
 ·rw [if_pos hz] at h
  have e : 2 = 0 := congrArg (fun x => x.2.2) h
  cases e
 rw [if_neg hz] at h
 have hb : l.getD 0 0 < 256 := by
  rw [List.getD_eq_getElem?_getD, List.getElem?_eq_getElem (by omega)]
  exact hl _ (List.getElem_mem (by omega))
 obtain ⟨f1, f2⟩ := hc_first (l.getD 0 0) hb hz
 have h7 := hc_range (l.getD 0 0)
 have h1 : 1 <= hc (l.getD 0 0) := by omega
 obtain ⟨K, hK⟩ : ∃ K, K = hc (l.getD 0 0) := ⟨_, rfl⟩
 rw [<- hK] at h f1 f2 h7 h1
 obtain ⟨u, hu⟩ : ∃ u, u = unc l (K - 1) 1 (l.getD 0 0 - hm K) := ⟨_, rfl⟩
 rw [<- hu] at h
 unfold uncEnd at h
 by_cases hz2 : u.2 ≠ 0
 ·rw [if_pos hz2] at h
  exact absurd (congrArg (fun x => x.2.2) h) hz2
 rw [if_neg hz2] at h
 by_cases hs : clen u.1 < K
 ·rw [if_pos hs] at h
  have e : 2 = 0 := congrArg (fun x => x.2.2) h
  cases e
 rw [if_neg hs] at h
 have e1 : u.1 = n := congrArg (fun x => x.1) h
 have e2 : K = k := congrArg (fun x => x.2.1) h
 have hu2 : unc l (K - 1) 1 (l.getD 0 0 - hm K) = (n, 0) := by
  rw [<- hu, <- e1]
  exact Prod.ext rfl (Classical.not_not.1 hz2)
 obtain ⟨a1, a2, a3⟩ := unc_again l _ _ _ _ hu2
 rw [e1] at hs
 have hlt : n < cbound K := by
  have hp : 0 < 64 ^ (K - 1) := Nat.pow_pos (by decide)
  have h3 := Nat.lt_succ_self (n / 64 ^ (K - 1))
  rw [a1] at h3
  have h4 : n < (l.getD 0 0 - hm K + 1) * 64 ^ (K - 1) := by
   rw [<- Nat.div_lt_iff_lt_mul hp, a1]; exact Nat.lt_succ_self _
  omega
 have hcl := clen_least n K h1 h7 hlt hs
 have hcb := cbound_le K h1 h7
 have hKl : K <= l.length := by
  rcases a2 with a2 | a2 <;> omega
 rw [<- e2]
 refine ⟨hcl.symm, by omega, hKl, ?_⟩
 apply List.ext_getElem?
 intro j
 by_cases hj : j < K
 ·rw [List.getElem?_take, if_pos hj, List.getElem?_eq_getElem (by omega)]
  unfold codeL
  rw [List.getElem?_map, List.getElem?_range hj]
  show some l[j] = some (codeAt n K j)
  have hg : l[j] = l.getD j 0 := by rw [List.getD_eq_getElem?_getD, List.getElem?_eq_getElem (by omega)]; rfl
  rw [hg]
  congr 1
  unfold codeAt
  by_cases hj0 : j = 0
  ·subst hj0
   rw [if_pos rfl, a1]
   omega
  ·rw [if_neg hj0]
   have := a3 (j - 1) (by omega)
   rw [show 1 + (j - 1) = j by omega, show K - 1 - 1 - (j - 1) = K - 1 - j by omega] at this
   exact this
 ·rw [List.getElem?_eq_none (by rw [List.length_take]; omega), List.getElem?_eq_none (by rw [codeL_length]; omega)]
def extN (sc : Nat) : Nat := if sc = 6 then 1 else if sc = 7 then 2 else 0
def rwN (rc : Nat) : Nat := if rc = 12 then 1 else if rc = 13 then 2 else if rc = 14 then 2 else 0
abbrev hdOk4 (B : List Nat) : Prop := 4 <= B.length /\ B.getD 0 0 = 255 /\ (B.getD 1 0 = 248 ∨ B.getD 1 0 = 249) /\ B.getD 3 0 % 2 = 0
def sizR (B : List Nat) (a sc : Nat) : Nat := if sc = 6 then B.getD a 0 + 1 else if sc = 7 then B.getD a 0 * 256 + B.getD (a + 1) 0 + 1 else (sizN sc).toNat
def ratR (B : List Nat) (a rc : Nat) : Nat := if rc = 12 then B.getD a 0 * 1000 else if rc = 13 then B.getD a 0 * 256 + B.getD (a + 1) 0 else if rc = 14 then (B.getD a 0 * 256 + B.getD (a + 1) 0) * 10 else (ratN rc).toNat
theorem getD_byte (B : List Nat) (hB : ∀ b ∈ B, b < 256) (j : Nat) : B.getD j 0 < 256 := by
 rw [List.getD_eq_getElem?_getD]
 by_cases h : j < B.length
 ·rw [List.getElem?_eq_getElem h]; exact hB _ (List.getElem_mem h)
 ·rw [List.getElem?_eq_none (by omega)]; decide
theorem take1_at (B : List Nat) (a : Nat) (h : a < B.length) : (B.drop a).take 1 = [B.getD a 0] := by
 rw [List.drop_eq_getElem_cons h, List.getD_eq_getElem?_getD, List.getElem?_eq_getElem h]; rfl
theorem take2_at (B : List Nat) (a : Nat) (h : a + 1 < B.length) : (B.drop a).take 2 = [B.getD a 0, B.getD (a + 1) 0] := by
 rw [List.drop_eq_getElem_cons (by omega), List.drop_eq_getElem_cons h, List.getD_eq_getElem?_getD, List.getElem?_eq_getElem (by omega), List.getD_eq_getElem?_getD, List.getElem?_eq_getElem h]; rfl
theorem take4_at (B : List Nat) (h : 4 <= B.length) : B.take 4 = [B.getD 0 0, B.getD 1 0, B.getD 2 0, B.getD 3 0] := by
 match B, h with
 | b0 :: b1 :: b2 :: b3 :: t, _ => rfl
theorem sizN_all : ∀ c : Nat, c < 16 -> (1 <= c -> c ≠ 6 -> c ≠ 7 -> 1 <= sizN c) /\ 0 <= sizN c := by decide
theorem ratN_all : ∀ c : Nat, c < 16 -> 0 <= ratN c := by decide
abbrev hdFit (i : Inf) (size rate sc rc cc wc : Nat) : Prop := ¬ sc = 0 /\ size <= 4608 /\ ¬ rc = 15 /\ (rc = 0 ∨ (rate : Int) = i.rate) /\ cc <= 10 /\ (if 8 <= cc then (2 : Int) else (cc : Int) + 1) = i.ch /\ (wc = 0 ∨ (¬ wc = 3 /\ ¬ wc = 7 /\ widN wc = i.wd))
def moN (cc : Nat) : Int := if 8 <= cc then (cc : Int) - 7 else 0
def hdFm (B : List Nat) (num k : Nat) (S : List Sb) : Fm := ⟨decide (B.getD 1 0 = 249), (num : Nat), (sizR B (4 + k) (B.getD 2 0 / 16) : Nat), ((B.getD 2 0 / 16 : Nat) : Int), ((B.getD 2 0 % 16 : Nat) : Int), ((B.getD 3 0 % 16 / 2 : Nat) : Int), moN (B.getD 3 0 / 16), S⟩
theorem hed_again (B : List Nat) (hB : ∀ b ∈ B, b < 256) (i : Inf) (hi : mayF i) (num k : Nat) (S : List Sb) (h4 : hdOk4 B) (hu : uncode (B.drop 4) = (num, k, 0)) (hnum : B.getD 1 0 = 249 ∨ num <= 2147483647)
  (hlen : 4 + k + extN (B.getD 2 0 / 16) + rwN (B.getD 2 0 % 16) + 1 <= B.length) (hcrc : B.getD (4 + k + extN (B.getD 2 0 / 16) + rwN (B.getD 2 0 % 16)) 0 = crc8N (B.take (4 + k + extN (B.getD 2 0 / 16) + rwN (B.getD 2 0 % 16))))
  (hfit : hdFit i (sizR B (4 + k) (B.getD 2 0 / 16)) (ratR B (4 + k + extN (B.getD 2 0 / 16)) (B.getD 2 0 % 16)) (B.getD 2 0 / 16) (B.getD 2 0 % 16) (B.getD 3 0 / 16) (B.getD 3 0 % 16 / 2)) :
  okH (hdFm B num k S) i /\ B.take (4 + k + extN (B.getD 2 0 / 16) + rwN (B.getD 2 0 % 16) + 1) = hedC (hdFm B num k S) i := by
 obtain ⟨h40, h41, h42, h43⟩ := h4
 obtain ⟨u1, u2, u3, u4⟩ := uncode_again (B.drop 4) (fun b hb => hB b (List.mem_of_mem_drop hb)) num k hu
 obtain ⟨f1, f2, f3, f4, f5, f6, f7⟩ := hfit
 have b2 := getD_byte B hB 2
 have b3 := getD_byte B hB 3
 have bx := getD_byte B hB (4 + k)
 have by_ := getD_byte B hB (4 + k + 1)
 have bu := getD_byte B hB (4 + k + extN (B.getD 2 0 / 16))
 have bv := getD_byte B hB (4 + k + extN (B.getD 2 0 / 16) + 1)
 have hkl : 4 + k <= B.length := by rw [List.length_drop] at u3; omega
 have ht4 := take4_at B h40
 have hz := sizN_all (B.getD 2 0 / 16) (by omega)
 have hrr := ratN_all (B.getD 2 0 % 16) (by omega)
 unfold hdFm
 generalize hsc : B.getD 2 0 / 16 = sc at *
 generalize hrc : B.getD 2 0 % 16 = rc at *
 have e2 : B.getD 2 0 = sc * 16 + rc := by omega
 generalize B.getD 2 0 = c2 at *
 generalize hcc : B.getD 3 0 / 16 = cc at *
 generalize hwc : B.getD 3 0 % 16 / 2 = wc at *
 have e3 : B.getD 3 0 = cc * 16 + wc * 2 := by omega
 generalize B.getD 3 0 = c3 at *
 have hsiz : (1 : Int) <= (sizR B (4 + k) sc : Nat) := by
  unfold sizR
  split
  ·omega
  ·split
   ·omega
   ·have := hz.1 (by omega) (by omega) (by omega); omega
 have hS : (B.drop (4 + k)).take (extN sc) = sizL ⟨decide (B.getD 1 0 = 249), num, sizR B (4 + k) sc, sc, rc, wc, moN cc, S⟩ := by
  unfold sizL extN
  simp only
  by_cases c6 : sc = 6
  ·have e : sizR B (4 + k) sc = B.getD (4 + k) 0 + 1 := by unfold sizR; rw [if_pos c6]
   rw [if_pos c6, if_pos (by omega), e, take1_at B (4 + k) (by unfold extN at hlen; rw [if_pos c6] at hlen; omega)]
   congr 1; omega
  ·by_cases c7 : sc = 7
   ·have e : sizR B (4 + k) sc = B.getD (4 + k) 0 * 256 + B.getD (4 + k + 1) 0 + 1 := by unfold sizR; rw [if_neg c6, if_pos c7]
    rw [if_neg c6, if_pos c7, if_neg (by omega), if_pos (by omega), e, take2_at B (4 + k) (by unfold extN at hlen; rw [if_neg c6, if_pos c7] at hlen; omega)]
    have e4 : ((((B.getD (4 + k) 0 * 256 + B.getD (4 + k + 1) 0 + 1 : Nat) : Int)) - 1).toNat = B.getD (4 + k) 0 * 256 + B.getD (4 + k + 1) 0 := by omega
    rw [e4]
    congr 1
    ·omega
    ·congr 1; omega
   ·rw [if_neg c6, if_neg c7, if_neg (by omega), if_neg (by omega), List.take_zero]
 have hR : (B.drop (4 + k + extN sc)).take (rwN rc) = ratL ⟨decide (B.getD 1 0 = 249), num, sizR B (4 + k) sc, sc, rc, wc, moN cc, S⟩ i := by
  have hrate : ¬ rc = 0 -> (ratR B (4 + k + extN sc) rc : Int) = i.rate := fun h => by rcases f4 with f | f; exact absurd f h; exact f
  generalize 4 + k + extN sc = a at *
  unfold ratL rwN
  simp only
  by_cases c12 : rc = 12
  ·have e := hrate (by omega)
   unfold ratR at e
   rw [if_pos c12] at e
   rw [if_pos c12, if_pos (by omega), take1_at B a (by unfold rwN at hlen; rw [if_pos c12] at hlen; omega)]
   congr 1; omega
  ·by_cases c13 : rc = 13
   ·have e := hrate (by omega)
    unfold ratR at e
    rw [if_neg c12, if_pos c13] at e
    rw [if_neg c12, if_pos c13, if_neg (by omega), if_pos (by omega), take2_at B a (by unfold rwN at hlen; rw [if_neg c12, if_pos c13] at hlen; omega)]
    have e4 : i.rate.toNat = B.getD a 0 * 256 + B.getD (a + 1) 0 := by omega
    rw [e4]
    congr 1
    ·omega
    ·congr 1; omega
   ·by_cases c14 : rc = 14
    ·have e := hrate (by omega)
     unfold ratR at e
     rw [if_neg c12, if_neg c13, if_pos c14] at e
     rw [if_neg c12, if_neg c13, if_pos c14, if_neg (by omega), if_neg (by omega), if_pos (by omega), take2_at B a (by unfold rwN at hlen; rw [if_neg c12, if_neg c13, if_pos c14] at hlen; omega)]
     have e4 : (i.rate / 10).toNat = B.getD a 0 * 256 + B.getD (a + 1) 0 := by omega
     rw [e4]
     congr 1
     ·omega
     ·congr 1; omega
    ·rw [if_neg c12, if_neg c13, if_neg c14, if_neg (by omega), if_neg (by omega), if_neg (by omega), List.take_zero]
 have hF : B.take 4 = fourL ⟨decide (B.getD 1 0 = 249), num, sizR B (4 + k) sc, sc, rc, wc, moN cc, S⟩ i := by
  rw [ht4, h41, e2, e3]
  unfold fourL
  simp only
  have x1 : B.getD 1 0 = 248 + (if decide (B.getD 1 0 = 249) = true then 1 else 0) := by
   rcases h42 with h | h
   ·rw [h]; rfl
   ·rw [h]; rfl
  have x2 : sc * 16 + rc = ((sc : Int) * 16 + (rc : Int)).toNat := by omega
  have x3 : cc * 16 + wc * 2 = ((if moN cc = 0 then i.ch - 1 else 7 + moN cc) * 16 + (wc : Int) * 2).toNat := by
   unfold moN
   by_cases c8 : 8 <= cc
   ·rw [if_pos c8, if_neg (by omega)]; omega
   ·rw [if_neg c8] at f6
    rw [if_neg c8, if_pos rfl]; omega
  rw [<- x1, <- x2, <- x3]
 have hL : B.take (4 + k + extN sc + rwN rc) = hedL ⟨decide (B.getD 1 0 = 249), num, sizR B (4 + k) sc, sc, rc, wc, moN cc, S⟩ i := by
  unfold hedL
  rw [List.take_add, List.take_add, List.take_add, hF, u4, hS, hR]
  simp only [Int.toNat_natCast]
  rw [<- u1]
 refine ⟨⟨hi, ⟨hsiz, by show ((sizR B (4 + k) sc : Nat) : Int) <= 4608; omega⟩, ⟨by show (0 : Int) <= (num : Nat); omega, ?_⟩, ⟨?_, ?_, ?_⟩, ⟨⟨by show (1 : Int) <= (sc : Nat); omega, by show ((sc : Nat) : Int) <= 15; omega⟩, ?_⟩, ?_, ?_⟩, ?_⟩
 ·show (num : Int) <= if decide (B.getD 1 0 = 249) = true then 68719476735 else 2147483647
  rcases hnum with h | h
  ·rw [if_pos (decide_eq_true h)]; omega
  ·split <;> omega
 ·show 0 <= moN cc
  unfold moN; split <;> omega
 ·show moN cc <= 3
  unfold moN; split <;> omega
 ·show moN cc = 0 ∨ i.ch = 2
  unfold moN
  by_cases c8 : 8 <= cc
  ·rw [if_pos c8] at f6; exact .inr f6.symm
  ·rw [if_neg c8]; exact .inl rfl
 ·show sizN sc = (sizR B (4 + k) sc : Nat) ∨ ((sc : Int) = 6 /\ ((sizR B (4 + k) sc : Nat) : Int) <= 256) ∨ (sc : Int) = 7
  by_cases c6 : sc = 6
  ·refine .inr (.inl ⟨by omega, ?_⟩)
   unfold sizR; rw [if_pos c6]; omega
  ·by_cases c7 : sc = 7
   ·exact .inr (.inr (by omega))
   ·refine .inl ?_
    unfold sizR; rw [if_neg c6, if_neg c7]; omega
 ·show (rc : Int) = 0 ∨ ((1 <= (rc : Int) /\ (rc : Int) <= 11) /\ ratN rc = i.rate) ∨ ((rc : Int) = 12 /\ i.rate % 1000 = 0 /\ i.rate <= 255000) ∨ ((rc : Int) = 13 /\ i.rate <= 65535) ∨ ((rc : Int) = 14 /\ i.rate % 10 = 0 /\ i.rate <= 655350)
  rcases f4 with f | f
  ·exact .inl (by omega)
  ·unfold ratR at f
   by_cases c12 : rc = 12
   ·rw [if_pos c12] at f
    exact .inr (.inr (.inl ⟨by omega, by omega, by omega⟩))
   ·by_cases c13 : rc = 13
    ·rw [if_neg c12, if_pos c13] at f
     exact .inr (.inr (.inr (.inl ⟨by omega, by omega⟩)))
    ·by_cases c14 : rc = 14
     ·rw [if_neg c12, if_neg c13, if_pos c14] at f
      exact .inr (.inr (.inr (.inr ⟨by omega, by omega, by omega⟩)))
     ·rw [if_neg c12, if_neg c13, if_neg c14] at f
      by_cases c0 : rc = 0
      ·exact .inl (by omega)
      ·exact .inr (.inl ⟨⟨by omega, by omega⟩, by omega⟩)
 ·show (wc : Int) = 0 ∨ ((1 <= (wc : Int) /\ (wc : Int) <= 6) /\ ¬ (wc : Int) = 3 /\ widN wc = i.wd)
  rcases f7 with f | ⟨g1, g2, g3⟩
  ·exact .inl (by omega)
  ·by_cases c0 : wc = 0
   ·exact .inl (by omega)
   ·exact .inr ⟨⟨by omega, by omega⟩, by omega, g3⟩
 ·unfold hedC
  rw [List.take_add, hL, take1_at B _ (by omega), hcrc, hL]
theorem getD_behind (A X : List Nat) (j : Nat) : (A ++ X).getD (A.length + j) 0 = X.getD j 0 := by
 rw [List.getD_eq_getElem?_getD, List.getElem?_append_right (by omega), List.getD_eq_getElem?_getD, show A.length + j - A.length = j by omega]
theorem rc_rng {f : Fm} {i : Inf} (h : saysR f i) : 0 <= f.rc /\ f.rc <= 14 := by rcases h with h | h | h | h | h <;> omega
theorem wc_rng {f : Fm} {i : Inf} (h : saysW f i) : 0 <= f.wc /\ f.wc <= 6 /\ ¬ f.wc = 3 := by rcases h with h | h <;> omega
theorem hed_back (f : Fm) (i : Inf) (R : List Nat) (h : okH f i) :
  hdOk4 (hedC f i ++ R) /\ uncode ((hedC f i ++ R).drop 4) = (f.num.toNat, clen f.num.toNat, 0) /\ ((hedC f i ++ R).getD 1 0 = 249 ∨ f.num.toNat <= 2147483647)
  /\ (hedC f i ++ R).getD 2 0 / 16 = f.sc.toNat /\ (hedC f i ++ R).getD 2 0 % 16 = f.rc.toNat /\ (hedC f i ++ R).getD 3 0 % 16 / 2 = f.wc.toNat /\ moN ((hedC f i ++ R).getD 3 0 / 16) = f.mo
  /\ (hedC f i).length = 4 + clen f.num.toNat + extN f.sc.toNat + rwN f.rc.toNat + 1
  /\ (hedC f i ++ R).getD (4 + clen f.num.toNat + extN f.sc.toNat + rwN f.rc.toNat) 0 = crc8N ((hedC f i ++ R).take (4 + clen f.num.toNat + extN f.sc.toNat + rwN f.rc.toNat))
  /\ hdFm (hedC f i ++ R) f.num.toNat (clen f.num.toNat) f.S = f
  /\ hdFit i (sizR (hedC f i ++ R) (4 + clen f.num.toNat) f.sc.toNat) (ratR (hedC f i ++ R) (4 + clen f.num.toNat + extN f.sc.toNat) f.rc.toNat) f.sc.toNat f.rc.toNat ((hedC f i ++ R).getD 3 0 / 16) f.wc.toNat := by
 obtain ⟨hi, hsz, hnum, hmo, hz, hr, hw⟩ := h
 have hrr := rc_rng hr
 have hwr := wc_rng hw
 obtain ⟨B, hB⟩ : ∃ B, B = hedC f i ++ R := ⟨_, rfl⟩
 have hB1 : B = fourL f i ++ (codeL f.num.toNat (clen f.num.toNat) ++ (sizL f ++ (ratL f i ++ ([crc8N (hedL f i)] ++ R)))) := by
  rw [hB]; unfold hedC hedL; simp only [List.append_assoc]
 have hfl : (fourL f i).length = 4 := rfl
 have hcl : (codeL f.num.toNat (clen f.num.toNat)).length = clen f.num.toNat := codeL_length _ _
 have hsl : (sizL f).length = extN f.sc.toNat := by
  unfold sizL extN
  by_cases c6 : f.sc = 6
  ·rw [if_pos c6, if_pos (by omega)]; rfl
  ·by_cases c7 : f.sc = 7
   ·rw [if_neg c6, if_pos c7, if_neg (by omega), if_pos (by omega)]; rfl
   ·rw [if_neg c6, if_neg c7, if_neg (by omega), if_neg (by omega)]; rfl
 have hrl : (ratL f i).length = rwN f.rc.toNat := by
  unfold ratL rwN
  by_cases c12 : f.rc = 12
  ·rw [if_pos c12, if_pos (by omega)]; rfl
  ·by_cases c13 : f.rc = 13
   ·rw [if_neg c12, if_pos c13, if_neg (by omega), if_pos (by omega)]; rfl
   ·by_cases c14 : f.rc = 14
    ·rw [if_neg c12, if_neg c13, if_pos c14, if_neg (by omega), if_neg (by omega), if_pos (by omega)]; rfl
    ·rw [if_neg c12, if_neg c13, if_neg c14, if_neg (by omega), if_neg (by omega), if_neg (by omega)]; rfl
 have g0 : B.getD 0 0 = 255 := by rw [hB1]; rfl
 have g1 : B.getD 1 0 = 248 + (if f.v then 1 else 0) := by rw [hB1]; rfl
 have g2 : B.getD 2 0 = (f.sc * 16 + f.rc).toNat := by rw [hB1]; rfl
 have g3 : B.getD 3 0 = ((if f.mo = 0 then i.ch - 1 else 7 + f.mo) * 16 + f.wc * 2).toNat := by rw [hB1]; rfl
 have e2 : B.getD 2 0 / 16 = f.sc.toNat /\ B.getD 2 0 % 16 = f.rc.toNat := by rw [g2]; omega
 have e3 : B.getD 3 0 % 16 / 2 = f.wc.toNat /\ B.getD 3 0 % 2 = 0 /\ B.getD 3 0 / 16 = (if f.mo = 0 then i.ch - 1 else 7 + f.mo).toNat := by
  rw [g3]
  by_cases c : f.mo = 0
  ·rw [if_pos c]; omega
  ·rw [if_neg c]; omega
 have hm : moN (B.getD 3 0 / 16) = f.mo := by
  rw [e3.2.2]
  unfold moN
  by_cases c : f.mo = 0
  ·rw [if_pos c, if_neg (by omega)]; exact c.symm
  ·rw [if_neg c, if_pos (by omega)]; omega
 have hhl : (hedC f i).length = 4 + clen f.num.toNat + extN f.sc.toNat + rwN f.rc.toNat + 1 := by
  unfold hedC hedL
  simp only [List.length_append, hfl, hcl, hsl, hrl, List.length_singleton]
 have hhl2 : (hedL f i).length = 4 + clen f.num.toNat + extN f.sc.toNat + rwN f.rc.toNat := by
  unfold hedL
  simp only [List.length_append, hfl, hcl, hsl, hrl]
 have hBL : B = hedL f i ++ ([crc8N (hedL f i)] ++ R) := by rw [hB]; unfold hedC; rw [List.append_assoc]
 have hlenB : 4 + clen f.num.toNat + extN f.sc.toNat + rwN f.rc.toNat + 1 <= B.length := by rw [hB, List.length_append, hhl]; omega
 have hS4 : ∀ j, B.getD (4 + clen f.num.toNat + j) 0 = (sizL f ++ (ratL f i ++ ([crc8N (hedL f i)] ++ R))).getD j 0 := fun j => by
  have e : B = (fourL f i ++ codeL f.num.toNat (clen f.num.toNat)) ++ (sizL f ++ (ratL f i ++ ([crc8N (hedL f i)] ++ R))) := by rw [hB1, List.append_assoc]
  have hl : (fourL f i ++ codeL f.num.toNat (clen f.num.toNat)).length = 4 + clen f.num.toNat := by rw [List.length_append, hfl, hcl]
  rw [e, <- hl, getD_behind]
 have hR4 : ∀ j, B.getD (4 + clen f.num.toNat + extN f.sc.toNat + j) 0 = (ratL f i ++ ([crc8N (hedL f i)] ++ R)).getD j 0 := fun j => by
  rw [Nat.add_assoc (4 + clen f.num.toNat), hS4, <- hsl, getD_behind]
 have hsize : (sizR B (4 + clen f.num.toNat) f.sc.toNat : Int) = f.size := by
  unfold sizR
  by_cases c6 : f.sc = 6
  ·rw [if_pos (by omega)]
   have := hS4 0
   unfold sizL at this
   rw [if_pos c6] at this
   have e : B.getD (4 + clen f.num.toNat) 0 = (f.size - 1).toNat := this
   rw [e]; omega
  ·by_cases c7 : f.sc = 7
   ·rw [if_neg (by omega), if_pos (by omega)]
    have h0 := hS4 0
    have h1 := hS4 1
    unfold sizL at h0 h1
    rw [if_neg c6, if_pos c7] at h0 h1
    have e0 : B.getD (4 + clen f.num.toNat) 0 = (f.size - 1).toNat / 256 := h0
    have e1 : B.getD (4 + clen f.num.toNat + 1) 0 = (f.size - 1).toNat % 256 := h1
    rw [e0, e1]; omega
   ·rw [if_neg (by omega), if_neg (by omega)]
    have hc : ((f.sc.toNat : Nat) : Int) = f.sc := by omega
    rw [hc]
    rcases hz.2 with h | h | h
    ·omega
    ·omega
    ·omega
 have hrate : f.rc = 0 ∨ (ratR B (4 + clen f.num.toNat + extN f.sc.toNat) f.rc.toNat : Int) = i.rate := by
  by_cases c0 : f.rc = 0
  ·exact .inl c0
  refine .inr ?_
  have h0 := hR4 0
  have h1 := hR4 1
  unfold ratR
  unfold ratL at h0 h1
  by_cases c12 : f.rc = 12
  ·rw [if_pos (by omega)]
   rw [if_pos c12] at h0
   have e : B.getD (4 + clen f.num.toNat + extN f.sc.toNat) 0 = (i.rate / 1000).toNat := h0
   rw [e]
   rcases hr with h | h | h | h | h <;> omega
  ·by_cases c13 : f.rc = 13
   ·rw [if_neg (by omega), if_pos (by omega)]
    rw [if_neg c12, if_pos c13] at h0 h1
    have e0 : B.getD (4 + clen f.num.toNat + extN f.sc.toNat) 0 = i.rate.toNat / 256 := h0
    have e1 : B.getD (4 + clen f.num.toNat + extN f.sc.toNat + 1) 0 = i.rate.toNat % 256 := h1
    rw [e0, e1]
    omega
   ·by_cases c14 : f.rc = 14
    ·rw [if_neg (by omega), if_neg (by omega), if_pos (by omega)]
     rw [if_neg c12, if_neg c13, if_pos c14] at h0 h1
     have e0 : B.getD (4 + clen f.num.toNat + extN f.sc.toNat) 0 = (i.rate / 10).toNat / 256 := h0
     have e1 : B.getD (4 + clen f.num.toNat + extN f.sc.toNat + 1) 0 = (i.rate / 10).toNat % 256 := h1
     rw [e0, e1]
     rcases hr with h | h | h | h | h <;> omega
    ·rw [if_neg (by omega), if_neg (by omega), if_neg (by omega)]
     have hc : ((f.rc.toNat : Nat) : Int) = f.rc := by omega
     rw [hc]
     rcases hr with h | h | h | h | h <;> omega
 have hv : decide (B.getD 1 0 = 249) = f.v := by
  rw [g1]
  cases f.v <;> rfl
 rw [<- hB]
 refine ⟨⟨by omega, g0, ?_, e3.2.1⟩, ?_, ?_, e2.1, e2.2, e3.1, hm, hhl, ?_, ?_, ?_⟩
 ·rw [g1]; cases f.v
  ·exact .inl rfl
  ·exact .inr rfl
 ·have e : B.drop 4 = codeL f.num.toNat (clen f.num.toNat) ++ (sizL f ++ (ratL f i ++ ([crc8N (hedL f i)] ++ R))) := by rw [hB1]; rfl
  have hn : f.num.toNat < 68719476736 := by
   have := hnum.2
   split at this <;> omega
  rw [e]
  exact uncode_code _ hn _
 ·rw [g1]
  have := hnum.2
  cases hvv : f.v with
  | true => exact .inl rfl
  | false =>
   rw [hvv] at this
   exact .inr (by
    have h2 : f.num <= 2147483647 := this
    omega)
 ·have h1 := getD_behind (hedL f i) ([crc8N (hedL f i)] ++ R) 0
  rw [<- hBL, hhl2, Nat.add_zero] at h1
  have h2 : B.take (4 + clen f.num.toNat + extN f.sc.toNat + rwN f.rc.toNat) = hedL f i := by
   rw [<- hhl2, hBL, List.take_append_of_le_length (Nat.le_refl _), List.take_length]
  rw [h1, h2]; rfl
 ·unfold hdFm
  rw [hv, e2.1, e2.2, e3.1, hm, hsize]
  have x1 : ((f.num.toNat : Nat) : Int) = f.num := by omega
  have x2 : ((f.sc.toNat : Nat) : Int) = f.sc := by omega
  have x3 : ((f.rc.toNat : Nat) : Int) = f.rc := by omega
  have x4 : ((f.wc.toNat : Nat) : Int) = f.wc := by omega
  rw [x1, x2, x3, x4]
 ·refine ⟨by omega, by omega, by omega, ?_, ?_, ?_, ?_⟩
  ·rcases hrate with h | h
   ·exact .inl (by omega)
   ·exact .inr h
  ·rw [e3.2.2]
   by_cases c : f.mo = 0
   ·rw [if_pos c]; omega
   ·rw [if_neg c]; omega
  ·rw [e3.2.2]
   by_cases c : f.mo = 0
   ·rw [if_pos c, if_neg (by omega)]; omega
   ·rw [if_neg c, if_pos (by omega)]; omega
  ·have x4 : ((f.wc.toNat : Nat) : Int) = f.wc := by omega
   rcases hw with h | ⟨h1, h2, h3⟩
   ·exact .inl (by omega)
   ·exact .inr ⟨by omega, by omega, by rw [x4]; exact h3⟩
end Go.Proofs.YtfpfabmbipmipaaGreatDoor

/- Own text. -/
import Derived.Test.YthgpleelpeacjaaGreatDoorF8
set_option linter.unusedSimpArgs false
set_option linter.unusedVariables false
set_option maxRecDepth 20000
set_option maxHeartbeats 12800000
namespace Go.Proofs.YthgpleelpeacjaaGreatDoor
open Go.RowKit
theorem tt_iff {P : Prop} (h : P) : (true = true ↔ P) := ⟨fun _ => h, fun _ => rfl⟩
theorem ff_iff {P : Prop} (h : ¬ P) : (false = true ↔ P) := Iff.intro (fun e => Bool.noConfusion e) (fun e => absurd e h)
theorem bb_no {bb : Bool} {P : Prop} (h : bb = true ↔ P) (hn : ¬ P) : bb = false := by
 cases bb with
 | false => rfl
 | true => exact absurd (h.1 rfl) hn
theorem bb_yes {bb : Bool} {P : Prop} (h : bb = true ↔ P) (hn : P) : bb = true := h.2 hn
structure SX (w : World) (q : Sb) (ca : Option Addr) (cc : Nat) (pa : Option Addr) (pc : Nat) (ea : Option Addr) (ec : Nat) (wx : World) : Prop where
 box : wx.heap[w.heap.size]? = some (.cells (subC q ca cc pa pc ea ec) 27 (0, 0))
 below : Below w.heap.size w wx
section
variable {w wx w' : World} {q : Sb} {ca : Option Addr} {cc : Nat} {pa : Option Addr} {pc : Nat} {ea : Option Addr} {ec : Nat}
theorem SX.new (w : World) (q : Sb) (ca : Option Addr) (cc : Nat) (pa : Option Addr) (pc : Nat) (ea : Option Addr) (ec : Nat) : SX w q ca cc pa pc ea ec (w.alloc (.cells (subC q ca cc pa pc ea ec) 27)) :=
 ⟨heap_alloc_new _ _, (Below.refl _ _).alloc (Nat.le_refl _) _⟩
theorem SX.next (h : SX w q ca cc pa pc ea ec wx) (hb : Below wx.heap.size wx w') : SX w q ca cc pa pc ea ec w' :=
 ⟨by rw [hb.block _ (lt_of_block h.box)]; exact h.box, h.below.trans (hb.mono h.below.size)⟩
end
theorem fit_sign (x : Int) (k : Nat) : (-2 ^ k ≤ x ∧ x < 2 ^ k) ↔ (x / 2 ^ k = 0 ∨ x / 2 ^ k = -1) := by
 have hq : (0 : Int) < 2 ^ k := Int.pow_pos (by decide)
 have h1 := Int.emod_add_mul_ediv x (2 ^ k)
 have h2 := Int.emod_nonneg x (Int.ne_of_gt hq)
 have h3 := Int.emod_lt_of_pos x hq
 generalize (2 : Int) ^ k = m at *
 generalize x % m = r at *
 generalize hy : x / m = y at *
 constructor
 ·rintro ⟨a, b⟩
  rcases Int.lt_or_le y (-1) with c | c
  ·have := Int.mul_le_mul_of_nonneg_left (show y ≤ -2 by omega) (Int.le_of_lt hq)
   omega
  ·rcases Int.lt_or_le 0 y with d | d
   ·have := Int.mul_le_mul_of_nonneg_left (show 1 ≤ y by omega) (Int.le_of_lt hq)
    omega
   ·omega
 ·rintro (c | c)
  ·rw [c, Int.mul_zero] at h1; omega
  ·rw [c, Int.mul_neg, Int.mul_one] at h1; omega
theorem div_rng (x : Int) (k : Nat) (h : -9223372036854775808 ≤ x ∧ x ≤ 9223372036854775807) : -9223372036854775808 ≤ x / 2 ^ k ∧ x / 2 ^ k ≤ 9223372036854775807 := by
 have hq : (0 : Int) < 2 ^ k := Int.pow_pos (by decide)
 have h1 := Int.ediv_mul_le x (Int.ne_of_gt hq)
 have h2 := Int.lt_ediv_add_one_mul_self x hq
 have hq1 : (1 : Int) ≤ 2 ^ k := hq
 generalize (2 : Int) ^ k = m at *
 generalize x / m = y at *
 constructor
 ·rcases Int.lt_or_le y (-9223372036854775808) with c | c
  ·have := Int.mul_le_mul_of_nonneg_right (show y + 1 ≤ -9223372036854775808 by omega) (Int.le_of_lt hq)
   omega
  ·exact c
 ·rcases Int.lt_or_le 9223372036854775807 y with c | c
  ·have := Int.mul_le_mul_of_nonneg_right (show 9223372036854775808 ≤ y by omega) (Int.le_of_lt hq)
   omega
  ·exact c
theorem sigE_sign (x : Int) (k : Nat) (hk : k ≤ 63) : sigE x ((k : Int) + 1) = 0 ↔ (x / 2 ^ k = 0 ∨ x / 2 ^ k = -1) := by
 rw [sigE_iff, ← fit_sign, show ((k : Int) + 1).toNat - 1 = k by omega]
 constructor
 ·rintro ⟨_, _, a, b⟩; exact ⟨a, b⟩
 ·rintro ⟨a, b⟩; exact ⟨by omega, by omega, a, b⟩
theorem s_areOf (b v : Int) (bb : Bool) (hbb : bb = true ↔ (1 ≤ b ∧ b ≤ 65535) ∧ (1 ≤ v ∧ v ≤ 33)) (w : World) : Calls Tryz.prog 127 #[.int .i64 b, .int .i64 v] w fun e w' => e = .returned (.bool bb) ∧ w' = w := by
 by_cases g0 : b < 1
 ·rw [bb_no hbb (by omega)]
  clear hbb
  go_enter Tryz.func127, Tryz.ntmps127
  go_wp2_with fail
  go_ret
  exact ⟨rfl, rfl⟩
 ·skip
  by_cases g1 : 65535 < b
  ·rw [bb_no hbb (by omega)]
   clear hbb
   go_enter Tryz.func127, Tryz.ntmps127
   go_wp2_with fail
   go_ret
   exact ⟨rfl, rfl⟩
  ·skip
   by_cases g2 : v < 1
   ·rw [bb_no hbb (by omega)]
    clear hbb
    go_enter Tryz.func127, Tryz.ntmps127
    go_wp2_with fail
    go_ret
    exact ⟨rfl, rfl⟩
   ·skip
    by_cases g3 : 33 < v
    ·rw [bb_no hbb (by omega)]
     clear hbb
     have hb : decide (v ≤ 33) = false := decide_eq_false (by omega)
     go_enter Tryz.func127, Tryz.ntmps127
     go_wp2_with fail
     go_ret
     exact ⟨rfl, rfl⟩
    ·skip
     rw [bb_yes hbb (by omega)]
     clear hbb
     have hb : decide (v ≤ 33) = true := decide_eq_true (by omega)
     go_enter Tryz.func127, Tryz.ntmps127
     go_wp2_with fail
     go_ret
     exact ⟨rfl, rfl⟩
theorem s_within (l : List Int) (la : Option Addr) (lc : Nat) (k : Nat) (hk : k ≤ 63) (bb : Bool) (hbb : bb = true ↔ ∀ x ∈ l, sigE x ((k : Int) + 1) = 0) (w : World) (hl : IntsAt w la l) : Calls Tryz.prog 129 #[.slice la l.length lc, .int .i64 ((k : Int) + 1)] w fun e w' => e = .returned (.bool bb) ∧ w' = w := by
 have HL : Hid (IntsAt w la l) := hl
 have h1 := hl.len
 have HBB : Hid (bb = true ↔ ∀ x ∈ l, sigE x ((k : Int) + 1) = 0) := hbb
 clear hbb hl
 go_enter Tryz.func129, Tryz.ntmps129
 go_wp2_with fail
 go_loopw [6, 7, 10] (fun s6 s7 t wr => ∃ i : Nat, i ≤ l.length ∧ t = .int .i64 (i : Int) ∧ (∀ j, j < i → sigE (l.getD j 0) ((k : Int) + 1) = 0) ∧ wr = w) (fun _ _ t _ => l.length - (intOf t).toNat)
 case atStart => exact ⟨0, Nat.zero_le _, rfl, fun j hj => absurd hj (Nat.not_lt_zero _), rfl⟩
 case round =>
  obtain ⟨i, hi, rfl, hs, rfl⟩ := hrel
  have HS : Hid (∀ j, j < i → sigE (l.getD j 0) ((k : Int) + 1) = 0) := hs
  clear hs
  by_cases hlt : i < l.length
  ·obtain ⟨b1, o1, rfl, q1⟩ := HL.out.at i hlt
   have r1 := q1 wr (Below.refl _ _)
   have hsg := sigE_sign (l.getD i 0) k hk
   have hrg := HL.out.rng i
   have HM : Hid (l.getD i 0 ∈ l) := by
    show _ ∈ _
    rw [List.getD_eq_getElem?_getD, List.getElem?_eq_getElem hlt]; exact List.getElem_mem hlt
   have hdr : -9223372036854775808 ≤ l.getD i 0 / 2 ^ k ∧ l.getD i 0 / 2 ^ k ≤ 9223372036854775807 := div_rng _ k hrg
   have HSG : Hid (sigE (l.getD i 0) ((k : Int) + 1) = 0 ↔ (l.getD i 0 / 2 ^ k = 0 ∨ l.getD i 0 / 2 ^ k = -1)) := hsg
   have HE : Hid (∀ j, j = i → l.getD j 0 = l.getD i 0) := fun j hj => by rw [hj]
   clear q1 hsg
   generalize l.getD i 0 = x at *
   by_cases c0 : x / 2 ^ k = 0
   ·have hb0 : (x / 2 ^ k != 0) = false := by rw [bne_eq_false_iff_eq]; exact c0
    have HX : Hid (sigE x ((k : Int) + 1) = 0) := HSG.out.2 (.inl c0)
    clear HSG c0 HM
    go_wp2_with fail
    go_roundw
    case rel =>
     refine ⟨i + 1, by omega, by go_num, fun j hj => ?_, trivial⟩
     by_cases e : j = i
     ·rw [HE.out j e]; exact HX.out
     ·exact HS.out j (by omega)
    case measure => simp [intOf]; omega
   ·by_cases c1 : x / 2 ^ k = -1
    ·have hb0 : (x / 2 ^ k != 0) = true := by rw [bne_iff_ne]; exact c0
     have hb1 : (x / 2 ^ k != -1) = false := by rw [bne_eq_false_iff_eq]; exact c1
     have HX : Hid (sigE x ((k : Int) + 1) = 0) := HSG.out.2 (.inr c1)
     clear HSG c0 c1 HM
     go_wp2_with fail
     go_roundw
     case rel =>
      refine ⟨i + 1, by omega, by go_num, fun j hj => ?_, trivial⟩
      by_cases e : j = i
      ·rw [HE.out j e]; exact HX.out
      ·exact HS.out j (by omega)
     case measure => simp [intOf]; omega
    ·have hb0 : (x / 2 ^ k != 0) = true := by rw [bne_iff_ne]; exact c0
     have hb1 : (x / 2 ^ k != -1) = true := by rw [bne_iff_ne]; exact c1
     have HF : Hid (bb = false) := bb_no HBB.out (fun h => by
      have := HSG.out.1 (h x HM.out)
      omega)
     clear HSG c0 c1 HM
     go_wp2_with fail
     go_ret
     exact ⟨by rw [HF.out]; rfl, rfl⟩
  ·have HF : Hid (bb = true) := bb_yes HBB.out (fun x hx => by
    obtain ⟨j, hj, rfl⟩ := List.mem_iff_getElem.1 hx
    have := HS.out j (by omega)
    rw [List.getD_eq_getElem?_getD, List.getElem?_eq_getElem hj] at this
    exact this)
   go_wp2_with fail
   go_ret
   exact ⟨by rw [HF.out]; rfl, rfl⟩
theorem z_isLevel (lv : Int) (bb : Bool) (hbb : bb = true ↔ 0 ≤ lv ∧ lv ≤ 2) (w : World) : Calls Tryz.prog 26 #[.int .i64 lv] w fun e w' => e = .returned (.bool bb) ∧ w' = w := by
 by_cases g0 : lv < 0
 ·rw [bb_no hbb (by omega)]
  clear hbb
  go_enter Tryz.func26, Tryz.ntmps26
  go_wp2_with fail
  go_ret
  exact ⟨rfl, rfl⟩
 ·skip
  by_cases g1 : 2 < lv
  ·rw [bb_no hbb (by omega)]
   clear hbb
   have hb : decide (lv ≤ 2) = false := decide_eq_false (by omega)
   go_enter Tryz.func26, Tryz.ntmps26
   go_wp2_with fail
   go_ret
   exact ⟨rfl, rfl⟩
  ·skip
   rw [bb_yes hbb (by omega)]
   clear hbb
   have hb : decide (lv ≤ 2) = true := decide_eq_true (by omega)
   go_enter Tryz.func26, Tryz.ntmps26
   go_wp2_with fail
   go_ret
   exact ⟨rfl, rfl⟩
theorem z_within (l : List Int) (la : Option Addr) (lc : Nat) (k : Nat) (hk : k ≤ 63) (bb : Bool) (hbb : bb = true ↔ ∀ x ∈ l, sigE x ((k : Int) + 1) = 0) (w : World) (hl : IntsAt w la l) : Calls Tryz.prog 72 #[.slice la l.length lc, .int .i64 ((k : Int) + 1)] w fun e w' => e = .returned (.bool bb) ∧ w' = w := by
 have HL : Hid (IntsAt w la l) := hl
 have h1 := hl.len
 have HBB : Hid (bb = true ↔ ∀ x ∈ l, sigE x ((k : Int) + 1) = 0) := hbb
 clear hbb hl
 go_enter Tryz.func72, Tryz.ntmps72
 go_wp2_with fail
 go_loopw [6, 7, 10] (fun s6 s7 t wr => ∃ i : Nat, i ≤ l.length ∧ t = .int .i64 (i : Int) ∧ (∀ j, j < i → sigE (l.getD j 0) ((k : Int) + 1) = 0) ∧ wr = w) (fun _ _ t _ => l.length - (intOf t).toNat)
 case atStart => exact ⟨0, Nat.zero_le _, rfl, fun j hj => absurd hj (Nat.not_lt_zero _), rfl⟩
 case round =>
  obtain ⟨i, hi, rfl, hs, rfl⟩ := hrel
  have HS : Hid (∀ j, j < i → sigE (l.getD j 0) ((k : Int) + 1) = 0) := hs
  clear hs
  by_cases hlt : i < l.length
  ·obtain ⟨b1, o1, rfl, q1⟩ := HL.out.at i hlt
   have r1 := q1 wr (Below.refl _ _)
   have hsg := sigE_sign (l.getD i 0) k hk
   have hrg := HL.out.rng i
   have HM : Hid (l.getD i 0 ∈ l) := by
    show _ ∈ _
    rw [List.getD_eq_getElem?_getD, List.getElem?_eq_getElem hlt]; exact List.getElem_mem hlt
   have hdr : -9223372036854775808 ≤ l.getD i 0 / 2 ^ k ∧ l.getD i 0 / 2 ^ k ≤ 9223372036854775807 := div_rng _ k hrg
   have HSG : Hid (sigE (l.getD i 0) ((k : Int) + 1) = 0 ↔ (l.getD i 0 / 2 ^ k = 0 ∨ l.getD i 0 / 2 ^ k = -1)) := hsg
   have HE : Hid (∀ j, j = i → l.getD j 0 = l.getD i 0) := fun j hj => by rw [hj]
   clear q1 hsg
   generalize l.getD i 0 = x at *
   by_cases c0 : x / 2 ^ k = 0
   ·have hb0 : (x / 2 ^ k != 0) = false := by rw [bne_eq_false_iff_eq]; exact c0
    have HX : Hid (sigE x ((k : Int) + 1) = 0) := HSG.out.2 (.inl c0)
    clear HSG c0 HM
    go_wp2_with fail
    go_roundw
    case rel =>
     refine ⟨i + 1, by omega, by go_num, fun j hj => ?_, trivial⟩
     by_cases e : j = i
     ·rw [HE.out j e]; exact HX.out
     ·exact HS.out j (by omega)
    case measure => simp [intOf]; omega
   ·by_cases c1 : x / 2 ^ k = -1
    ·have hb0 : (x / 2 ^ k != 0) = true := by rw [bne_iff_ne]; exact c0
     have hb1 : (x / 2 ^ k != -1) = false := by rw [bne_eq_false_iff_eq]; exact c1
     have HX : Hid (sigE x ((k : Int) + 1) = 0) := HSG.out.2 (.inr c1)
     clear HSG c0 c1 HM
     go_wp2_with fail
     go_roundw
     case rel =>
      refine ⟨i + 1, by omega, by go_num, fun j hj => ?_, trivial⟩
      by_cases e : j = i
      ·rw [HE.out j e]; exact HX.out
      ·exact HS.out j (by omega)
     case measure => simp [intOf]; omega
    ·have hb0 : (x / 2 ^ k != 0) = true := by rw [bne_iff_ne]; exact c0
     have hb1 : (x / 2 ^ k != -1) = true := by rw [bne_iff_ne]; exact c1
     have HF : Hid (bb = false) := bb_no HBB.out (fun h => by
      have := HSG.out.1 (h x HM.out)
      omega)
     clear HSG c0 c1 HM
     go_wp2_with fail
     go_ret
     exact ⟨by rw [HF.out]; rfl, rfl⟩
  ·have HF : Hid (bb = true) := bb_yes HBB.out (fun x hx => by
    obtain ⟨j, hj, rfl⟩ := List.mem_iff_getElem.1 hx
    have := HS.out j (by omega)
    rw [List.getD_eq_getElem?_getD, List.getElem?_eq_getElem hj] at this
    exact this)
   go_wp2_with fail
   go_ret
   exact ⟨by rw [HF.out]; rfl, rfl⟩
theorem z_mayBe (l : List Int) (la : Option Addr) (lc : Nat) (v : Int) (bb : Bool) (hbb : bb = true ↔ (1 ≤ v ∧ v ≤ 33) ∧ (1 ≤ l.length ∧ l.length ≤ 65535) ∧ ∀ x ∈ l, sigE x v = 0) (w : World) (hl : IntsAt w la l) : Calls Tryz.prog 27 #[.slice la l.length lc, .int .i64 v] w fun e w' => e = .returned (.bool bb) ∧ w' = w := by
 have h1 := hl.len
 by_cases g0 : v < 1
 ·rw [bb_no hbb (fun h => by omega)]
  clear hbb hl
  go_enter Tryz.func27, Tryz.ntmps27
  go_wp2_with fail
  go_ret
  exact ⟨rfl, rfl⟩
 ·skip
  by_cases g1 : 33 < v
  ·rw [bb_no hbb (fun h => by omega)]
   clear hbb hl
   have hb : decide (v ≤ 33) = false := decide_eq_false (by omega)
   go_enter Tryz.func27, Tryz.ntmps27
   go_wp2_with fail
   go_ret
   exact ⟨rfl, rfl⟩
  ·skip
   by_cases g2 : l.length < 1
   ·rw [bb_no hbb (fun h => by omega)]
    clear hbb hl
    have hb : decide (v ≤ 33) = true := decide_eq_true (by omega)
    have hc : decide ((1 : Int) ≤ (l.length : Int)) = false := decide_eq_false (by omega)
    go_enter Tryz.func27, Tryz.ntmps27
    go_wp2_with fail
    go_ret
    exact ⟨rfl, rfl⟩
   ·skip
    by_cases g3 : 65535 < l.length
    ·rw [bb_no hbb (fun h => by omega)]
     clear hbb hl
     have hb : decide (v ≤ 33) = true := decide_eq_true (by omega)
     have hc : decide ((1 : Int) ≤ (l.length : Int)) = true := decide_eq_true (by omega)
     have hd : decide ((l.length : Int) ≤ 65535) = false := decide_eq_false (by omega)
     go_enter Tryz.func27, Tryz.ntmps27
     go_wp2_with fail
     go_ret
     exact ⟨rfl, rfl⟩
    ·skip
     obtain ⟨k, hk, hk2⟩ : ∃ k : Nat, v = (k : Int) + 1 ∧ k ≤ 63 := ⟨(v - 1).toNat, by omega, by omega⟩
     subst hk
     have kw := fun wx (e : wx = w) => z_within l la lc k hk2 bb (hbb.trans ⟨fun h => h.2.2, fun h => ⟨by omega, by omega, h⟩⟩) wx (by rw [e]; exact hl)
     have hb : decide ((k : Int) + 1 ≤ 33) = true := decide_eq_true (by omega)
     have ha : decide ((1 : Int) ≤ (k : Int) + 1) = true := decide_eq_true (by omega)
     have hc : decide ((1 : Int) ≤ (l.length : Int)) = true := decide_eq_true (by omega)
     have hd : decide ((l.length : Int) ≤ 65535) = true := decide_eq_true (by omega)
     clear hbb hl
     generalize (k : Int) + 1 = v at *
     go_enter Tryz.func27, Tryz.ntmps27
     go_wp2_with fail
     refine (kw w rfl).mono ?_
     rintro e w2 ⟨rfl, hw2⟩
     subst hw2
     clear kw
     go_wp2_with fail
     go_ret
     exact ⟨rfl, rfl⟩
theorem z_areSame (l : List Int) (la : Option Addr) (lc : Nat) (w : World) (hl : IntsAt w la l) : Calls Tryz.prog 140 #[.slice la l.length lc] w fun e w' => e = .returned (.bool (l.all (fun x => x == l.getD 0 0))) ∧ w' = w := by
 have HL : Hid (IntsAt w la l) := hl
 have h1 := hl.len
 clear hl
 go_enter Tryz.func140, Tryz.ntmps140
 go_wp2_with fail
 go_loopw [4, 7] (fun s4 t wr => ∃ i : Nat, i ≤ l.length ∧ t = .int .i64 (i : Int) ∧ (∀ j, j < i → l.getD j 0 = l.getD 0 0) ∧ wr = w) (fun _ t _ => l.length - (intOf t).toNat)
 case atStart => exact ⟨0, Nat.zero_le _, rfl, fun j hj => absurd hj (Nat.not_lt_zero _), rfl⟩
 case round =>
  obtain ⟨i, hi, rfl, hs, rfl⟩ := hrel
  have HS : Hid (∀ j, j < i → l.getD j 0 = l.getD 0 0) := hs
  clear hs
  by_cases hlt : i < l.length
  ·obtain ⟨b1, o1, hla, q1⟩ := HL.out.at i hlt
   obtain ⟨b0, o0, hla0, q0⟩ := HL.out.at 0 (by omega)
   subst hla
   cases hla0
   have r1 := q1 wr (Below.refl _ _)
   have r0 := q0 wr (Below.refl _ _)
   have HE : Hid (∀ j, j = i → l.getD j 0 = l.getD i 0) := fun j hj => by rw [hj]
   have HM : Hid (l.getD i 0 ∈ l) := by
    show _ ∈ _
    rw [List.getD_eq_getElem?_getD, List.getElem?_eq_getElem hlt]; exact List.getElem_mem hlt
   clear q1 q0
   rw [Nat.add_zero] at r0
   by_cases c0 : l.getD i 0 = l.getD 0 0
   ·have hb0 : (l.getD i 0 != l.getD 0 0) = false := by rw [bne_eq_false_iff_eq]; exact c0
    have HX : Hid (l.getD i 0 = l.getD 0 0) := c0
    clear c0 HM
    obtain ⟨x, hx⟩ : ∃ x, x = l.getD i 0 := ⟨_, rfl⟩
    obtain ⟨y, hy⟩ : ∃ y, y = l.getD 0 0 := ⟨_, rfl⟩
    rw [← hx] at r1 hb0
    rw [← hy] at r0 hb0
    clear hx hy
    go_wp2_with fail
    go_roundw
    case rel =>
     refine ⟨i + 1, by omega, by go_num, fun j hj => ?_, trivial⟩
     by_cases e : j = i
     ·rw [HE.out j e]; exact HX.out
     ·exact HS.out j (by omega)
    case measure => simp [intOf]; omega
   ·have hb0 : (l.getD i 0 != l.getD 0 0) = true := by rw [bne_iff_ne]; exact c0
    have HF : Hid (l.all (fun x => x == l.getD 0 0) = false) := by
     show _ = _
     rw [Bool.eq_false_iff]
     intro h
     exact c0 (by have := List.all_eq_true.1 h _ HM.out; rwa [beq_iff_eq] at this)
    clear c0 HM HE
    obtain ⟨x, hx⟩ : ∃ x, x = l.getD i 0 := ⟨_, rfl⟩
    obtain ⟨y, hy⟩ : ∃ y, y = l.getD 0 0 := ⟨_, rfl⟩
    rw [← hx] at r1 hb0
    rw [← hy] at r0 hb0
    clear hx hy
    go_wp2_with fail
    go_ret
    exact ⟨by rw [HF.out]; rfl, rfl⟩
  ·have HF : Hid (l.all (fun x => x == l.getD 0 0) = true) := by
    show _ = _
    rw [List.all_eq_true]
    intro x hx
    obtain ⟨j, hj, rfl⟩ := List.mem_iff_getElem.1 hx
    have := HS.out j (by omega)
    rw [List.getD_eq_getElem?_getD, List.getElem?_eq_getElem hj] at this
    rw [beq_iff_eq]; exact this
   go_wp2_with fail
   go_ret
   exact ⟨by rw [HF.out]; rfl, rfl⟩
theorem z_maxFixed (lv : Int) (w : World) : Calls Tryz.prog 188 #[.int .i64 lv] w fun e w' => e = .returned (.int .i64 (if lv = 0 then 2 else 4)) ∧ w' = w := by
 by_cases g0 : lv = 0
 ·rw [if_pos g0]
  subst g0
  go_enter Tryz.func188, Tryz.ntmps188
  go_wp2_with fail
  go_ret
  exact ⟨rfl, rfl⟩
 ·skip
  rw [if_neg g0]
  have hb : (lv == 0) = false := by rw [beq_eq_false_iff_ne]; exact g0
  clear g0
  go_enter Tryz.func188, Tryz.ntmps188
  go_wp2_with fail
  go_ret
  exact ⟨rfl, rfl⟩
theorem info_prices : (Tryz.prog.info? 239).map (·.size) = some 15 := by kernel_rfl
def pxA (f : Nat → Int) : Array Value := ((List.range 15).map fun k => Value.int .i64 (f k)).toArray
theorem pxA_size (f : Nat → Int) : (pxA f).size = 15 := by simp [pxA]
theorem pxA_get (f : Nat → Int) (j : Nat) (h : j < 15) : (pxA f)[j]? = some (.int .i64 (f j)) := by
 simp [pxA, List.getElem?_map, List.getElem?_range h]
theorem undPx : Tryz.prog.underlying 239 = some (.array 15 3) := by kernel_rfl
theorem run_index_px (A : Array Value) (hsz : A.size = 15) (v : Int) (j : Nat) (h : j < 15) (hv : A[j]? = some (.int .i64 v)) (w : World) : (Instr.index 239 (.agg A) (.int .i64 (j : Int))).run Tryz.prog w = .ok (.int .i64 v) w := by
 have hn : 0 ≤ (j : Int) ∧ (j : Int) < ((15 : Nat) : Int) := by omega
 simp [Instr.index, run_underlying undPx, asIntOf, hn, go_sem, size3, h]
 rw [hv]
 rfl
theorem exp15 (A : Array Value) (h : A.size = 15) : (#[A[0]'(by omega), A[1]'(by omega), A[2]'(by omega), A[3]'(by omega), A[4]'(by omega), A[5]'(by omega), A[6]'(by omega), A[7]'(by omega), A[8]'(by omega), A[9]'(by omega), A[10]'(by omega), A[11]'(by omega), A[12]'(by omega), A[13]'(by omega), A[14]'(by omega)] : Array Value) = A := by
 apply Array.ext
 ·exact h.symm
 ·intro i h1 h2
  have : i = 0 ∨ i = 1 ∨ i = 2 ∨ i = 3 ∨ i = 4 ∨ i = 5 ∨ i = 6 ∨ i = 7 ∨ i = 8 ∨ i = 9 ∨ i = 10 ∨ i = 11 ∨ i = 12 ∨ i = 13 ∨ i = 14 := by omega
  rcases this with rfl | rfl | rfl | rfl | rfl | rfl | rfl | rfl | rfl | rfl | rfl | rfl | rfl | rfl | rfl <;> rfl
def bestK (f : Nat → Nat) : Nat → Nat
 | 0 => 0
 | n + 1 => if f (n + 1) < f (bestK f n) then n + 1 else bestK f n
theorem bestK_at (f : Nat → Nat) (n : Nat) : f (bestK f n) ≤ f n := by
 cases n with
 | zero => exact Nat.le_refl _
 | succ n => unfold bestK; split <;> omega
def pv (n : Nat) : Int := if n < 1000000000000000 then (n : Int) else -1
theorem pv_lt {n : Nat} (h : n < 1000000000000000) : pv n = (n : Int) := if_pos h
theorem pv_ge {n : Nat} (h : ¬ n < 1000000000000000) : pv n = -1 := if_neg h
def pl (a b : Nat) : Nat := if a < 1000000000000000 ∧ b < 1000000000000000 then a + b else 1000000000000000
theorem bestK_le (f : Nat → Nat) (n : Nat) : bestK f n ≤ n := by
 induction n with
 | zero => exact Nat.le_refl _
 | succ n ih => unfold bestK; split <;> omega
theorem least_spec (f : Nat → Nat) (hf : ∀ k, f k ≤ 1000000000000000) (w : World) :
  Calls Tryz.prog 225 #[.agg (pxA fun k => (pv (f k)))] w fun en w' => en = .returned (.int .i64 (bestK f 14 : Int)) ∧ Below w.heap.size w w' := by
 have hsz := pxA_size (fun k => (pv (f k)))
 have hget := pxA_get (fun k => (pv (f k)))
 generalize pxA (fun k => (pv (f k))) = A at *
 have hbx : (w.alloc (.cells A 239)).heap[w.heap.size]? = some (.cells A 239 (0, 0)) := heap_alloc_new _ _
 have hld := run_loadVar_row (P := Tryz.prog) (w.alloc (.cells A 239)) w.heap.size 239 239 A (0, 0) _ hbx Tryz.underlying239 rfl (by rw [hsz]; exact info_prices)
 go_enter Tryz.func225, Tryz.ntmps225
 go_wp2_with fail
 rw [exp15 A hsz]
 have HBX : Hid ((w.alloc (.cells A 239)).heap[w.heap.size]? = some (.cells A 239 (0, 0))) := hbx
 have HBL : Hid (Below w.heap.size w (w.alloc (.cells A 239))) := (Below.refl _ _).alloc (Nat.le_refl _) _
 clear hbx hld
 generalize hwa : w.alloc _ = wa at *
 clear hwa
 go_loopw [3, 4, 5, 7] (fun s3 s4 s5 s7 wr => ∃ j : Nat, j ≤ 15 ∧ s7 = .int .i64 (j : Int) ∧ s3 = .int .i64 ((bestK f (j - 1) : Nat) : Int) ∧ wr = wa) (fun _ _ _ s7 _ => 15 - (intOf s7).toNat)
 case atStart => exact ⟨0, by omega, rfl, rfl, rfl⟩
 case round =>
  obtain ⟨j, hj, rfl, rfl, rfl⟩ := hrel
  by_cases hlt : j < 15
  ·have hb := bestK_le f (j - 1)
   have hg := hget j hlt
   have hgb := hget (bestK f (j - 1)) (by omega)
   have hc : wr.cell? ⟨w.heap.size, bestK f (j - 1), none⟩ = some (.int .i64 (pv (f (bestK f (j - 1))))) := by rw [cell_of_row _ _ _ _ _ _ HBX.out]; exact hgb
   have HST : Hid (bestK f (j + 1 - 1) = if f j < f (bestK f (j - 1)) then j else bestK f (j - 1)) := by
    show _ = _
    cases j with
    | zero => simp [bestK]
    | succ j => rfl
   have h1 := hf j
   have h2 := hf (bestK f (j - 1))
   have hix := run_index_px A hsz (pv (f j)) j hlt hg
   clear hget hgb hf hg
   generalize bestK f (j - 1) = bk at *
   generalize hv1 : f j = v1 at *
   generalize hv2 : f bk = v2 at *
   by_cases hv : v1 < v2
   ·rw [if_pos hv] at HST
    have e1 := pv_lt (n := v1) (by omega)
    rw [e1] at hix
    have hb1 : ((v1 : Int) != -1) = true := by rw [bne_iff_ne]; omega
    by_cases hi : v2 < 1000000000000000
    ·have e2 := pv_lt hi
     rw [e2] at hc
     have hb2 : ((v2 : Int) == -1) = false := by rw [beq_eq_false_iff_ne]; omega
     clear e1 e2
     go_wp2_with fail
     go_roundw
     case rel => exact ⟨j + 1, by omega, by go_num, by rw [HST.out], by first | rfl | trivial⟩
     case measure => simp [intOf]; omega
    ·have e2 := pv_ge hi
     rw [e2] at hc
     clear e1 e2 hi hv h2
     go_wp2_with fail
     go_roundw
     case rel => exact ⟨j + 1, by omega, by go_num, by rw [HST.out], by first | rfl | trivial⟩
     case measure => simp [intOf]; omega
   ·rw [if_neg hv] at HST
    by_cases hi : v1 < 1000000000000000
    ·have e1 := pv_lt hi
     have e2 := pv_lt (n := v2) (by omega)
     rw [e1] at hix
     rw [e2] at hc
     have hb1 : ((v1 : Int) != -1) = true := by rw [bne_iff_ne]; omega
     have hb2 : ((v2 : Int) == -1) = false := by rw [beq_eq_false_iff_ne]; omega
     clear e1 e2
     go_wp2_with fail
     go_roundw
     case rel => exact ⟨j + 1, by omega, by go_num, by rw [HST.out], by first | rfl | trivial⟩
     case measure => simp [intOf]; omega
    ·have e1 := pv_ge hi
     rw [e1] at hix
     have hp : -1 ≤ pv v2 ∧ pv v2 ≤ 1000000000000000 := by unfold pv; split <;> omega
     generalize pv v2 = p2 at *
     clear e1 hi hv h1 h2
     go_wp2_with fail
     go_roundw
     case rel => exact ⟨j + 1, by omega, by go_num, by rw [HST.out], by first | rfl | trivial⟩
     case measure => simp [intOf]; omega
  ·have hj15 : j = 15 := by omega
   subst hj15
   go_wp2_with fail
   go_ret
   exact ⟨rfl, HBL.out⟩
theorem pxA_all (f : Nat → Int) : (pxA f).all (·.oneCell') = true := by
 simp [pxA, Value.oneCell']
theorem pxA_congr (f g : Nat → Int) (h : ∀ k, k < 15 → f k = g k) : pxA f = pxA g := by
 apply Array.ext_getElem?
 intro i
 by_cases hi : i < 15
 ·rw [pxA_get _ i hi, pxA_get _ i hi, h i hi]
 ·rw [Array.getElem?_eq_none (by rw [pxA_size]; omega), Array.getElem?_eq_none (by rw [pxA_size]; omega)]
theorem pxA_set (f : Nat → Int) (j : Nat) (v : Int) (h : j < 15) : (pxA f).setIfInBounds j (.int .i64 v) = pxA (fun k => if k = j then v else f k) := by
 apply Array.ext_getElem?
 intro i
 rw [Array.getElem?_setIfInBounds]
 by_cases hi : i < 15
 ·rw [pxA_get _ i hi, pxA_get _ i hi, pxA_size]
  by_cases e : j = i
  ·subst e; simp [h]
  ·have e' : ¬ i = j := fun x => e x.symm
   simp [e, e']
 ·have h1 : (pxA f)[i]? = none := Array.getElem?_eq_none (by rw [pxA_size]; omega)
  have h2 : (pxA (fun k => if k = j then v else f k))[i]? = none := Array.getElem?_eq_none (by rw [pxA_size]; omega)
  have e : ¬ j = i := by omega
  rw [h1, h2]; simp [e]
theorem heap_setRow_other (w : World) (g k : Nat) (B : Array Value) (h : k ≠ g) : (w.setRow g B).heap[k]? = w.heap[k]? := by
 have h' : ¬ g = k := fun e => h e.symm
 simp [World.setRow, Array.getElem?_modify, h']
theorem below_setRow {B : Nat} {a w : World} (h : Below B a w) (g : Nat) (C : Array Value) (hg : B ≤ g) : Below B a (w.setRow g C) :=
 ⟨h.os, h.tape, h.output, by have := h.size; simpa [World.setRow] using this, fun k hk => by rw [heap_setRow_other w g k C (by omega)]; exact h.block k hk⟩
theorem plus_spec (f g : Nat → Nat) (hf : ∀ k, f k ≤ 400000000000000 ∨ f k = 1000000000000000) (hg : ∀ k, g k ≤ 400000000000000 ∨ g k = 1000000000000000) (w : World) :
  Calls Tryz.prog 226 #[.agg (pxA fun k => (pv (f k))), .agg (pxA fun k => (pv (g k)))] w fun en w' => en = .returned (.agg (pxA fun k => pv (pl (f k) (g k)))) ∧ Below w.heap.size w w' := by
 have HSz : Hid (∀ h : Nat → Int, (pxA h).size = 15) := pxA_size
 have HB : Hid (Below w.heap.size w (((w.alloc (.cells (pxA fun k => (pv (f k))) 239)).alloc (.cells (pxA fun k => (pv (g k))) 239)).alloc (.cells #[.int .i64 0, .int .i64 0, .int .i64 0, .int .i64 0, .int .i64 0, .int .i64 0, .int .i64 0, .int .i64 0, .int .i64 0, .int .i64 0, .int .i64 0, .int .i64 0, .int .i64 0, .int .i64 0, .int .i64 0] 239))) := ((((Below.refl _ _).alloc (Nat.le_refl _) _).alloc (by simp) _).alloc (by simp; omega) _)
 have H3 : Hid ((((w.alloc (.cells (pxA fun k => (pv (f k))) 239)).alloc (.cells (pxA fun k => (pv (g k))) 239)).alloc (.cells #[.int .i64 0, .int .i64 0, .int .i64 0, .int .i64 0, .int .i64 0, .int .i64 0, .int .i64 0, .int .i64 0, .int .i64 0, .int .i64 0, .int .i64 0, .int .i64 0, .int .i64 0, .int .i64 0, .int .i64 0] 239)).heap[w.heap.size]? = some (.cells (pxA fun k => (pv (f k))) 239 (0, 0)) ∧ (((w.alloc (.cells (pxA fun k => (pv (f k))) 239)).alloc (.cells (pxA fun k => (pv (g k))) 239)).alloc (.cells #[.int .i64 0, .int .i64 0, .int .i64 0, .int .i64 0, .int .i64 0, .int .i64 0, .int .i64 0, .int .i64 0, .int .i64 0, .int .i64 0, .int .i64 0, .int .i64 0, .int .i64 0, .int .i64 0, .int .i64 0] 239)).heap[w.heap.size + 1]? = some (.cells (pxA fun k => (pv (g k))) 239 (0, 0)) ∧ (((w.alloc (.cells (pxA fun k => (pv (f k))) 239)).alloc (.cells (pxA fun k => (pv (g k))) 239)).alloc (.cells #[.int .i64 0, .int .i64 0, .int .i64 0, .int .i64 0, .int .i64 0, .int .i64 0, .int .i64 0, .int .i64 0, .int .i64 0, .int .i64 0, .int .i64 0, .int .i64 0, .int .i64 0, .int .i64 0, .int .i64 0] 239)).heap[w.heap.size + 2]? = some (.cells #[.int .i64 0, .int .i64 0, .int .i64 0, .int .i64 0, .int .i64 0, .int .i64 0, .int .i64 0, .int .i64 0, .int .i64 0, .int .i64 0, .int .i64 0, .int .i64 0, .int .i64 0, .int .i64 0, .int .i64 0] 239 (0, 0))) := heap_three _ _ _ _
 have e0 : (#[.int .i64 0, .int .i64 0, .int .i64 0, .int .i64 0, .int .i64 0, .int .i64 0, .int .i64 0, .int .i64 0, .int .i64 0, .int .i64 0, .int .i64 0, .int .i64 0, .int .i64 0, .int .i64 0, .int .i64 0] : Array Value).size = 15 := rfl
 generalize hzz : (#[.int .i64 0, .int .i64 0, .int .i64 0, .int .i64 0, .int .i64 0, .int .i64 0, .int .i64 0, .int .i64 0, .int .i64 0, .int .i64 0, .int .i64 0, .int .i64 0, .int .i64 0, .int .i64 0, .int .i64 0] : Array Value) = Z at *
 go_enter Tryz.func226, Tryz.ntmps226
 go_wp2_with fail
 generalize hwa : World.alloc _ _ = wa at *
 clear hwa hzz
 go_loopw [5, 6] (fun s5 s6 wr => ∃ j : Nat, j ≤ 15 ∧ s6 = .int .i64 (j : Int) ∧ wr.heap[w.heap.size]? = some (.cells (pxA fun k => pv (if k < j then pl (f k) (g k) else f k)) 239 (0, 0)) ∧ wr.heap[w.heap.size + 1]? = some (.cells (pxA fun k => (pv (g k))) 239 (0, 0)) ∧ wr.heap[w.heap.size + 2]? = some (.cells Z 239 (0, 0)) ∧ Below w.heap.size w wr) (fun _ s6 _ => 15 - (intOf s6).toNat)
 case atStart => exact ⟨0, by omega, rfl, by simpa using H3.out.1, H3.out.2.1, H3.out.2.2, HB.out⟩
 case round =>
  clear H3 HB
  obtain ⟨j, hj, rfl, h1, h2, h3, h4⟩ := hrel
  have HH : Hid (wr.heap[w.heap.size]? = some (.cells (pxA fun k => pv (if k < j then pl (f k) (g k) else f k)) 239 (0, 0)) ∧ wr.heap[w.heap.size + 1]? = some (.cells (pxA fun k => (pv (g k))) 239 (0, 0)) ∧ wr.heap[w.heap.size + 2]? = some (.cells Z 239 (0, 0)) ∧ Below w.heap.size w wr) := ⟨h1, h2, h3, h4⟩
  by_cases hlt : j < 15
  ·have c1 : wr.cell? ⟨w.heap.size, j, none⟩ = some (.int .i64 (pv (f j))) := by
    rw [cell_of_row _ _ _ _ _ _ h1, pxA_get _ j hlt, if_neg (by omega)]
   have c2 : wr.cell? ⟨w.heap.size + 1, j, none⟩ = some (.int .i64 (pv (g j))) := by
    rw [cell_of_row _ _ _ _ _ _ h2, pxA_get _ j hlt]
   have z1 : wr.frozen? ⟨w.heap.size, j, none⟩ = false := by simp [World.frozen?, h1]
   have b1 := hf j
   have b2 := hg j
   have HV : Hid (∀ k, (if k = j then pv (pl (f j) (g j)) else pv (if k < j then pl (f k) (g k) else f k)) = pv (if k < j + 1 then pl (f k) (g k) else f k)) := fun k => by
    by_cases e : k = j
    ·subst e; simp
    ·by_cases e2 : k < j
     ·rw [if_neg e, if_pos e2, if_pos (by omega)]
     ·rw [if_neg e, if_neg e2, if_neg (by omega)]
   clear h1 h2 h3 h4 hf hg
   by_cases hfi : f j < 1000000000000000 ∧ g j < 1000000000000000
   ·have e1 := pv_lt hfi.1
    have e2 := pv_lt hfi.2
    have ep : pv (pl (f j) (g j)) = (f j : Int) + (g j : Int) := by unfold pl; rw [if_pos hfi, pv_lt (by omega)]; push_cast; rfl
    rw [e1] at c1
    rw [e2] at c2
    have q1 : ((f j : Int) == -1) = false := by rw [beq_eq_false_iff_ne]; omega
    have q2 : ((g j : Int) == -1) = false := by rw [beq_eq_false_iff_ne]; omega
    have b3 : (f j : Int) + (g j : Int) ≤ 800000000000000 ∧ 0 ≤ (f j : Int) ∧ 0 ≤ (g j : Int) := by omega
    rw [ep] at HV
    have hsum : (f j : Int) + (g j : Int) = (f j : Int) + (g j : Int) := rfl
    clear e1 e2 ep hfi b1 b2
    generalize hfj : (f j : Int) + (g j : Int) = sv at *
    generalize (f j : Int) = v1 at *
    generalize (g j : Int) = v2 at *
    go_wp2_with fail
    go_region
    go_wp2_with fail
    go_roundw
    case rel =>
     refine ⟨j + 1, by omega, by go_num, ?_, ?_, ?_, ?_⟩
     ·have hh := block_setCell wr w.heap.size j _ 239 (.int .i64 sv) HH.out.1
      rw [pxA_set _ j _ hlt] at hh
      have hfe : (fun k => if k = j then sv else pv (if k < j then pl (f k) (g k) else f k)) = (fun k => pv (if k < j + 1 then pl (f k) (g k) else f k)) := funext (fun k => HV.out k)
      rw [hfe] at hh
      exact hh
     ·exact block_set2 _ _ _ _ _ _ _ HH.out.2.1 (by omega)
     ·exact block_set2 _ _ _ _ _ _ _ HH.out.2.2.1 (by omega)
     ·exact (HH.out.2.2.2.setCell (Nat.le_refl _) _).drew
    case measure => simp [intOf]; omega
   ·have ep : pv (pl (f j) (g j)) = -1 := by unfold pl; rw [if_neg hfi]; rfl
    rw [ep] at HV
    obtain ⟨sv, hsv⟩ : ∃ sv : Int, sv = -1 := ⟨_, rfl⟩
    rw [← hsv] at HV
    clear ep
    by_cases hfj : f j < 1000000000000000
    ·have e1 := pv_lt hfj
     have e2 := pv_ge (n := g j) (fun h => hfi ⟨hfj, h⟩)
     rw [e1] at c1
     rw [e2] at c2
     have q1 : ((f j : Int) == -1) = false := by rw [beq_eq_false_iff_ne]; omega
     have b3 : (f j : Int) ≤ 800000000000000 ∧ 0 ≤ (f j : Int) := by omega
     clear e1 e2 hfi hfj b1 b2
     generalize (f j : Int) = v1 at *
     go_wp2_with fail
     go_roundw
     case rel =>
      refine ⟨j + 1, by omega, by go_num, ?_, ?_, ?_, ?_⟩
      ·have hh := block_setCell wr w.heap.size j _ 239 (.int .i64 sv) HH.out.1
       rw [pxA_set _ j _ hlt] at hh
       have hfe : (fun k => if k = j then sv else pv (if k < j then pl (f k) (g k) else f k)) = (fun k => pv (if k < j + 1 then pl (f k) (g k) else f k)) := funext (fun k => HV.out k)
       rw [hfe] at hh
       rw [hsv] at hh; exact hh
      ·exact block_set2 _ _ _ _ _ _ _ HH.out.2.1 (by omega)
      ·exact block_set2 _ _ _ _ _ _ _ HH.out.2.2.1 (by omega)
      ·exact HH.out.2.2.2.setCell (Nat.le_refl _) _
     case measure => simp [intOf]; omega
    ·have e1 := pv_ge hfj
     rw [e1] at c1
     have hp : -1 ≤ pv (g j) ∧ pv (g j) ≤ 1000000000000000 := by unfold pv; split <;> omega
     clear e1 hfi hfj b1 b2
     generalize pv (g j) = v2 at *
     go_wp2_with fail
     go_roundw
     case rel =>
      refine ⟨j + 1, by omega, by go_num, ?_, ?_, ?_, ?_⟩
      ·have hh := block_setCell wr w.heap.size j _ 239 (.int .i64 sv) HH.out.1
       rw [pxA_set _ j _ hlt] at hh
       have hfe : (fun k => if k = j then sv else pv (if k < j then pl (f k) (g k) else f k)) = (fun k => pv (if k < j + 1 then pl (f k) (g k) else f k)) := funext (fun k => HV.out k)
       rw [hfe] at hh
       rw [hsv] at hh; exact hh
      ·exact block_set2 _ _ _ _ _ _ _ HH.out.2.1 (by omega)
      ·exact block_set2 _ _ _ _ _ _ _ HH.out.2.2.1 (by omega)
      ·exact HH.out.2.2.2.setCell (Nat.le_refl _) _
     case measure => simp [intOf]; omega
  ·have hj15 : j = 15 := by omega
   subst hj15
   have eA : (pxA fun k => pv (if k < 15 then pl (f k) (g k) else f k)) = pxA fun k => pv (pl (f k) (g k)) := pxA_congr _ _ (fun k hk => by rw [if_pos hk])
   rw [eA] at h1 HH
   have hRs : (pxA fun k => pv (pl (f k) (g k))).size = 15 := pxA_size _
   have hRa : (pxA fun k => pv (pl (f k) (g k))).all (·.oneCell') = true := pxA_all _
   clear h1 h2 h3 h4 eA
   generalize hR : pxA (fun k => pv (pl (f k) (g k))) = R at *
   have HR : Hid (pxA (fun k => pv (pl (f k) (g k))) = R) := hR
   clear hR
   go_wp2_with (first
    | (refine wpList_load_row rfl 239 _ rfl w.heap.size rfl 239 R (0, 0) _ HH.out.1 Tryz.underlying239 rfl (by rw [hRs]; exact info_prices) ?_)
    | (refine wpList_store_row rfl 239 _ _ rfl (w.heap.size + 2) R rfl rfl 239 Z HH.out.2.2.1 (by rw [hRs]; exact info_prices) (by rw [e0, hRs]) hRa ?_))
   refine bodyPost_ret (v := .agg R) ?_ rfl ⟨by rw [← HR.out], below_setRow HH.out.2.2.2 _ _ (by omega)⟩
   exact results_cell_row rfl _ _ (w.heap.size + 2) 239 R (0, 0) _ rfl (setRow_heap wr (w.heap.size + 2) Z R 239 _ HH.out.2.2.1) Tryz.underlying239 rfl (by rw [hRs]; exact info_prices)
end Go.Proofs.YthgpleelpeacjaaGreatDoor

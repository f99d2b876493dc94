/- Own text. -/
import Derived.Test.YthgpleelpeacjaaGreatDoorH4
import Derived.RowKit
set_option linter.unusedSimpArgs false
set_option linter.unusedVariables false
set_option maxRecDepth 20000
set_option maxHeartbeats 12800000
namespace Go.Proofs.YthgpleelpeacjaaGreatDoor
open Go.RowKit
theorem info_cut : (Tryz.prog.info? 198).map (·.size) = some 3 := by kernel_rfl
abbrev cutV (p s f : Int) : Value := .agg #[.int .i64 p, .int .i64 s, .int .i64 f]
theorem pow15i (o : Nat) (h : o ≤ 15) : (1 : Int) ≤ 2 ^ o ∧ (2 : Int) ^ o ≤ 32768 := by
 have h1 := pow15 o h
 have e : (2 : Int) ^ o = ((2 ^ o : Nat) : Int) := by simp
 rw [e]; omega
theorem cutOf_yes (b o r : Nat) (h : Cut b o r) (w : World) :
  Calls Tryz.prog 180 #[.int .i64 (b : Int), .int .i64 (r : Int), .int .i64 (o : Int)] w fun e w' => e = .returned (.tuple #[cutV ((2 ^ o : Nat) : Int) ((b / 2 ^ o : Nat) : Int) (r : Int), .bool true]) ∧ Below w.heap.size w w' := by
 have h1 := h.o15
 have h2 := h.b1
 have h3 := h.b2
 have h4 := h.r2
 have KA : Hid (∀ wx, Calls Tryz.prog 219 #[.int .i64 (b : Int), .int .i64 (r : Int)] wx fun e w' => e = .returned (.bool true) ∧ w' = wx) := fun wx => (areOf_spec b r wx).mono fun e w' hh => ⟨by rw [hh.1, show areB b r = true from decide_eq_true (by omega)], hh.2⟩
 obtain ⟨hp1, hp2⟩ := pow15i o h1
 have hq : (b : Int).tdiv (2 ^ o) = ((b / 2 ^ o : Nat) : Int) := by rw [Int.tdiv_eq_ediv_of_nonneg (by omega)]; push_cast; rfl
 have hm : (b : Int).tmod (2 ^ o) = 0 := by
  rw [Int.tmod_eq_emod_of_nonneg (by omega)]
  have := Nat.div_add_mod b (2 ^ o); have := h.dv
  have e : ((b % 2 ^ o : Nat) : Int) = 0 := by omega
  rw [← e]; push_cast; rfl
 have hge : decide ((r : Int) ≤ ((b / 2 ^ o : Nat) : Int)) = true := decide_eq_true (by have := h.le; omega)
 have he : ((2 ^ o : Nat) : Int) = 2 ^ o := by simp
 rw [he]
 have hdl : ((b / 2 ^ o : Nat) : Int) ≤ 65535 := by have := Nat.div_le_self b (2 ^ o); omega
 have hd0 : (0 : Int) ≤ ((b / 2 ^ o : Nat) : Int) := Int.natCast_nonneg _
 generalize ((b / 2 ^ o : Nat) : Int) = d at *
 generalize hH : (2 : Int) ^ o = p at *
 clear h he
 go_enter Tryz.func180, Tryz.ntmps180
 go_wp2_with (go_at_call 219; refine (KA.out _).mono ?_; rintro e w' ⟨rfl, rfl⟩)
 go_region
 all_goals go_wp2
 generalize hwf : World.drew _ = wf
 have hrow : wf.heap[w.heap.size]? = some (.cells #[.int .i64 p, .int .i64 d, .int .i64 (r : Int)] 198 (0, 0)) := by
  rw [← hwf]; exact heap_two _ _ _
 have hbel : Below w.heap.size w wf := by
  rw [← hwf]; exact (((Below.refl _ _).alloc (Nat.le_refl _) _).alloc (by simp) _).drew
 refine bodyPost_ret (v := .tuple #[.agg #[.int .i64 p, .int .i64 d, .int .i64 (r : Int)], .bool true]) ?_ rfl ⟨rfl, hbel⟩
 rw [results_two rfl]
 have hld := run_loadVar_row (P := Tryz.prog) (wf) (w.heap.size) 198 198 #[.int .i64 p, .int .i64 d, .int .i64 (r : Int)] (0, 0) _ hrow Tryz.underlying198 rfl info_cut
 simp [asAddr, Result.andThen, hld]
theorem cut_head {b r o : Int} (h : cutOk b r o) : 0 ≤ o ∧ o ≤ 15 ∧ 1 ≤ b ∧ b ≤ 65535 ∧ 0 ≤ r ∧ r ≤ 32 := ⟨h.1, h.2.1, h.2.2.1, h.2.2.2.1, h.2.2.2.2.1, h.2.2.2.2.2.1⟩
theorem cutOf_no (b o r : Int) (h : ¬ cutOk b r o) (w : World) :
  Calls Tryz.prog 180 #[.int .i64 b, .int .i64 r, .int .i64 o] w fun e w' => ∃ p s f, e = .returned (.tuple #[cutV p s f, .bool false]) ∧ Below w.heap.size w w' := by
 have KA : Hid (∀ wx, Calls Tryz.prog 219 #[.int .i64 b, .int .i64 r] wx fun e w' => e = .returned (.bool (areB b r)) ∧ w' = wx) := fun wx => areOf_spec b r wx
 have HB1 : Hid (∀ o1 o2, Below w.heap.size w (w.alloc o1) ∧ Below w.heap.size w ((w.alloc o1).alloc o2) ∧ Below w.heap.size w ((w.alloc o1).alloc o2).drew) := fun o1 o2 => ⟨(Below.refl _ _).alloc (Nat.le_refl _) _, ((Below.refl _ _).alloc (Nat.le_refl _) _).alloc (by simp) _, (((Below.refl _ _).alloc (Nat.le_refl _) _).alloc (by simp) _).drew⟩
 by_cases g0 : o < 0
 ·clear KA
  clear h
  go_enter Tryz.func180, Tryz.ntmps180
  go_wp2
  generalize hwf : World.alloc _ _ = wf
  have hrow : wf.heap[w.heap.size]? = some (.cells #[.int .i64 0, .int .i64 0, .int .i64 0] 198 (0, 0)) := by
   rw [← hwf]; exact heap_alloc_new _ _
  have hbel : Below w.heap.size w wf := by
   rw [← hwf]; exact (Below.refl _ _).alloc (Nat.le_refl _) _
  refine bodyPost_ret (v := .tuple #[.agg #[.int .i64 0, .int .i64 0, .int .i64 0], .bool false]) ?_ rfl (by first | exact ⟨0, 0, 0, rfl, hbel⟩ | exact ⟨⟨0, 0, 0, rfl⟩, hbel⟩)
  rw [results_two rfl]
  have hld := run_loadVar_row (P := Tryz.prog) (wf) (w.heap.size) 198 198 #[.int .i64 0, .int .i64 0, .int .i64 0] (0, 0) _ hrow Tryz.underlying198 rfl info_cut
  simp [asAddr, Result.andThen, hld]
 ·skip
  by_cases g1 : 15 < o
  ·clear KA
   clear h
   go_enter Tryz.func180, Tryz.ntmps180
   go_wp2
   generalize hwf : World.alloc _ _ = wf
   have hrow : wf.heap[w.heap.size]? = some (.cells #[.int .i64 0, .int .i64 0, .int .i64 0] 198 (0, 0)) := by
    rw [← hwf]; exact heap_alloc_new _ _
   have hbel : Below w.heap.size w wf := by
    rw [← hwf]; exact (Below.refl _ _).alloc (Nat.le_refl _) _
   refine bodyPost_ret (v := .tuple #[.agg #[.int .i64 0, .int .i64 0, .int .i64 0], .bool false]) ?_ rfl (by first | exact ⟨0, 0, 0, rfl, hbel⟩ | exact ⟨⟨0, 0, 0, rfl⟩, hbel⟩)
   rw [results_two rfl]
   have hld := run_loadVar_row (P := Tryz.prog) (wf) (w.heap.size) 198 198 #[.int .i64 0, .int .i64 0, .int .i64 0] (0, 0) _ hrow Tryz.underlying198 rfl info_cut
   simp [asAddr, Result.andThen, hld]
  ·skip
   by_cases g2 : areB b r = false
   ·rw [g2] at KA
    clear h
    go_enter Tryz.func180, Tryz.ntmps180
    go_wp2_with (go_at_call 219; refine (KA.out _).mono ?_; rintro e w' ⟨rfl, rfl⟩)
    generalize hwf : World.alloc _ _ = wf
    have hrow : wf.heap[w.heap.size]? = some (.cells #[.int .i64 0, .int .i64 0, .int .i64 0] 198 (0, 0)) := by
     rw [← hwf]; exact heap_alloc_new _ _
    have hbel : Below w.heap.size w wf := by
     rw [← hwf]; exact (Below.refl _ _).alloc (Nat.le_refl _) _
    refine bodyPost_ret (v := .tuple #[.agg #[.int .i64 0, .int .i64 0, .int .i64 0], .bool false]) ?_ rfl (by first | exact ⟨0, 0, 0, rfl, hbel⟩ | exact ⟨⟨0, 0, 0, rfl⟩, hbel⟩)
    rw [results_two rfl]
    have hld := run_loadVar_row (P := Tryz.prog) (wf) (w.heap.size) 198 198 #[.int .i64 0, .int .i64 0, .int .i64 0] (0, 0) _ hrow Tryz.underlying198 rfl info_cut
    simp [asAddr, Result.andThen, hld]
   ·skip
    obtain ⟨a1, a2, a3, a4⟩ : 1 ≤ b ∧ b ≤ 65535 ∧ 0 ≤ r ∧ r ≤ 32 := by
     cases hq : areB b r with
     | false => exact absurd hq g2
     | true => exact of_decide_eq_true hq
    have g3 : areB b r = true := decide_eq_true ⟨a1, a2, a3, a4⟩
    rw [g3] at KA
    clear g2 g3
    obtain ⟨o, rfl⟩ : ∃ o' : Nat, o = o' := ⟨o.toNat, by omega⟩
    obtain ⟨hp1, hp2⟩ := pow15i o (by omega)
    have hbm : b.tmod (2 ^ o) = b % 2 ^ o := Int.tmod_eq_emod_of_nonneg (by omega)
    have hbd : b.tdiv (2 ^ o) = b / 2 ^ o := Int.tdiv_eq_ediv_of_nonneg (by omega)
    have hdl : b / 2 ^ o ≤ b := Int.ediv_le_self _ (by omega)
    have hd0 : (0 : Int) ≤ b / 2 ^ o := Int.ediv_nonneg (by omega) (by omega)
    have hm0 : (0 : Int) ≤ b % 2 ^ o := Int.emod_nonneg _ (by omega)
    have hm1 : b % 2 ^ o < 2 ^ o := Int.emod_lt_of_pos _ (by omega)
    have hno : ¬ (b % 2 ^ o = 0 ∧ r ≤ b / 2 ^ o) := fun hh => h ⟨by omega, by omega, a1, a2, a3, a4, by simpa using hh.1, by simpa using hh.2⟩
    generalize b / 2 ^ o = d at *
    generalize b % 2 ^ o = m at *
    generalize hH : (2 : Int) ^ o = p at *
    clear h
    by_cases g4 : m = 0
    ·have hb1 : (m == 0) = true := by rw [g4]; rfl
     have hb2 : decide (r ≤ d) = false := decide_eq_false (fun hh => hno ⟨g4, hh⟩)
     clear hno
     go_enter Tryz.func180, Tryz.ntmps180
     go_wp2_with (go_at_call 219; refine (KA.out _).mono ?_; rintro e w' ⟨rfl, rfl⟩)
     go_region
     all_goals go_wp2
     generalize hwf : World.drew _ = wf
     have hrow : wf.heap[w.heap.size]? = some (.cells #[.int .i64 p, .int .i64 d, .int .i64 r] 198 (0, 0)) := by
      rw [← hwf]; exact heap_two _ _ _
     have hbel : Below w.heap.size w wf := by
      rw [← hwf]; exact (((Below.refl _ _).alloc (Nat.le_refl _) _).alloc (by simp) _).drew
     refine bodyPost_ret (v := .tuple #[.agg #[.int .i64 p, .int .i64 d, .int .i64 r], .bool false]) ?_ rfl (by first | exact ⟨p, d, r, rfl, hbel⟩ | exact ⟨⟨p, d, r, rfl⟩, hbel⟩)
     rw [results_two rfl]
     have hld := run_loadVar_row (P := Tryz.prog) (wf) (w.heap.size) 198 198 #[.int .i64 p, .int .i64 d, .int .i64 r] (0, 0) _ hrow Tryz.underlying198 rfl info_cut
     simp [asAddr, Result.andThen, hld]
    ·have hb1 : (m == 0) = false := by rw [beq_eq_false_iff_ne]; exact g4
     clear hno
     go_enter Tryz.func180, Tryz.ntmps180
     go_wp2_with (go_at_call 219; refine (KA.out _).mono ?_; rintro e w' ⟨rfl, rfl⟩)
     go_region
     all_goals go_wp2
     generalize hwf : World.drew _ = wf
     have hrow : wf.heap[w.heap.size]? = some (.cells #[.int .i64 p, .int .i64 d, .int .i64 r] 198 (0, 0)) := by
      rw [← hwf]; exact heap_two _ _ _
     have hbel : Below w.heap.size w wf := by
      rw [← hwf]; exact (((Below.refl _ _).alloc (Nat.le_refl _) _).alloc (by simp) _).drew
     refine bodyPost_ret (v := .tuple #[.agg #[.int .i64 p, .int .i64 d, .int .i64 r], .bool false]) ?_ rfl (by first | exact ⟨p, d, r, rfl, hbel⟩ | exact ⟨⟨p, d, r, rfl⟩, hbel⟩)
     rw [results_two rfl]
     have hld := run_loadVar_row (P := Tryz.prog) (wf) (w.heap.size) 198 198 #[.int .i64 p, .int .i64 d, .int .i64 r] (0, 0) _ hrow Tryz.underlying198 rfl info_cut
     simp [asAddr, Result.andThen, hld]
theorem count_spec (p s f : Nat) (h1 : p * s ≤ 65535) (h2 : f ≤ 32) (hp : p ≤ 32768) (hs : s ≤ 65535) (w : World) :
  Calls Tryz.prog 191 #[cutV p s f] w fun e w' => e = .returned (.int .i64 ((p * s : Nat) - (f : Int))) ∧ Below w.heap.size w w' := by
 have e1 : (p : Int) * (s : Int) = ((p * s : Nat) : Int) := by push_cast; rfl
 have e2 : ((p * s : Nat) : Int) ≤ 65535 := by omega
 have e3 : (0 : Int) ≤ ((p * s : Nat) : Int) := Int.natCast_nonneg _
 have HB1 : Hid (∀ o1, Below w.heap.size w (w.alloc o1)) := fun o1 => (Below.refl _ _).alloc (Nat.le_refl _) _
 generalize ((p * s : Nat) : Int) = q at *
 clear h1
 go_enter Tryz.func191, Tryz.ntmps191
 go_wp2
 go_ret
 exact ⟨rfl, HB1.out _⟩
theorem undI : Tryz.prog.underlying 22 = some (.slice (Tryz.prog.elem 22)) := by kernel_rfl
theorem elemI : Tryz.prog.elem 22 = 3 := by kernel_rfl
theorem info3' : (Tryz.prog.info? 3).map (fun i => (i.zero, i.size, i.bytes)) = some (some (.int .i64 0), 1, 8) := by kernel_rfl
theorem size3 (w : World) : (Go.sizeOf 3).run Tryz.prog w = .ok 1 w := by
 have h := info3'
 cases hq : Tryz.prog.info? 3 with
 | none => rw [hq] at h; cases h
 | some i =>
  rw [hq] at h
  simp only [Option.map_some, Option.some.injEq, Prod.mk.injEq] at h
  simp [Go.sizeOf, typeInfo, hq, h.2.1]
theorem slice_ints3 (a : Option Addr) (n c f t : Nat) (h1 : f ≤ t) (h2 : t ≤ c) (h0 : a = none → c = 0) :
  ∃ xo, (∀ w, (Instr.slice 22 (.slice a n c) (some (.int .i64 (f : Int))) (some (.int .i64 (t : Int))) (some (.int .i64 (t : Int)))).run Tryz.prog w = .ok (.slice xo (t - f) (t - f)) w) ∧ (xo = none → t - f = 0) ∧ (∀ b off, a = some ⟨b, off, none⟩ → f < t → xo = some ⟨b, off + f, none⟩) ∧ (∀ b, blockOf xo = some b → blockOf a = some b) := by
 cases a with
 | none =>
  have := h0 rfl
  refine ⟨none, fun w => ?_, fun _ => (by omega), fun b off q => (by cases q), fun b hb => hb⟩
  rw [run_slice_lhm w 22 none n c undI .i64 .i64 .i64 _ _ _ (by omega) (by omega) (by omega) (by omega), elemI, size3]
  simp [Result.andThen, sliced]
 | some ad =>
  refine ⟨some (if t = f then ad else ad.add f), fun w => ?_, fun q => (by cases q), fun b off q hlt => ?_, fun b hb => ?_⟩
  ·rw [run_slice_lhm w 22 (some ad) n c undI .i64 .i64 .i64 _ _ _ (by omega) (by omega) (by omega) (by omega), elemI, size3]
   simp only [Result.andThen_ok, sliced, Int.toNat_natCast, Option.map_some, Nat.mul_one]
   split <;> rfl
  ·cases q
   rw [if_neg (by omega), Addr.add_mid]
  ·revert hb
   split
   ·exact fun h => h
   ·unfold Addr.add; split <;> exact fun h => h
theorem part_spec (b o r i : Nat) (h : Cut b o r) (hi : i < 2 ^ o) (a : Option Addr) (n c : Nat) (hn : n = b - r) (hc : n ≤ c) (h0 : a = none → c = 0) (P : Int) (w : World) :
  Calls Tryz.prog 184 #[cutV P ((b / 2 ^ o : Nat) : Int) (r : Int), .slice a n c, .int .i64 (i : Int)] w fun e w' => ∃ xo, e = .returned (.slice xo (frN b o r (i + 1) - frN b o r i) (frN b o r (i + 1) - frN b o r i)) ∧ Below w.heap.size w w' ∧ (xo = none → frN b o r (i + 1) - frN b o r i = 0) ∧ (∀ bb off, a = some ⟨bb, off, none⟩ → 0 < frN b o r (i + 1) - frN b o r i → xo = some ⟨bb, off + frN b o r i, none⟩) ∧ (∀ bb, blockOf xo = some bb → blockOf a = some bb) := by
 have hm := frN_mono b o r i
 have hb := frN_bound h (i + 1) hi
 obtain ⟨xo, hsl, x0, x1, x2⟩ := slice_ints3 a n c (frN b o r i) (frN b o r (i + 1)) hm (by omega) h0
 have HX : Hid ((xo = none → frN b o r (i + 1) - frN b o r i = 0) ∧ (∀ bb off, a = some ⟨bb, off, none⟩ → 0 < frN b o r (i + 1) - frN b o r i → xo = some ⟨bb, off + frN b o r i, none⟩) ∧ (∀ bb, blockOf xo = some bb → blockOf a = some bb)) := ⟨x0, fun bb off e hlt => x1 bb off e (by omega), x2⟩
 clear x0 x1 x2
 have hfs := h.fr_succ i
 have hf0 : (frN b o r i : Int) = max ((frN b o r (i + 1) : Int) - ((b / 2 ^ o : Nat) : Int)) 0 := by
  have : frN b o r i = i * (b / 2 ^ o) - r := rfl
  rw [Nat.add_mul] at hfs
  omega
 have hi2 : i < 32768 := by have := (pow15 o h.o15).2; omega
 have hd : b / 2 ^ o ≤ 65535 := by have := Nat.div_le_self b (2 ^ o); have := h.b2; omega
 have hmul : ((i : Int) + 1) * ((b / 2 ^ o : Nat) : Int) = ((frN b o r (i + 1) : Nat) : Int) + (r : Int) := by
  have e : (((i + 1) * (b / 2 ^ o) : Nat) : Int) = ((frN b o r (i + 1) + r : Nat) : Int) := by rw [hfs]
  push_cast at e
  push_cast
  exact e
 have hr := h.r2
 have hb2 := h.b2
 have HB1 : Hid (∀ o1, Below w.heap.size w (w.alloc o1)) := fun o1 => (Below.refl _ _).alloc (Nat.le_refl _) _
 generalize frN b o r (i + 1) = t at *
 generalize frN b o r i = f at *
 generalize b / 2 ^ o = d at *
 have hd' : (d : Int) ≤ 65535 := by omega
 have ht' : (t : Int) ≤ 65535 := by omega
 have HF : Hid ((f : Int) = max ((t : Int) - (d : Int)) 0) := hf0
 clear hi h hfs hm hf0
 obtain ⟨e, he⟩ : ∃ e : Int, e = (t : Int) + (r : Int) := ⟨_, rfl⟩
 rw [← he] at hmul
 have hsub : e - (r : Int) = (t : Int) := by omega
 have he1 : 0 ≤ e := by omega
 have he2 : e ≤ 70000 := by omega
 clear he
 have HS : Hid (∀ w, (Instr.slice 22 (.slice a n c) (some (.int .i64 (f : Int))) (some (.int .i64 (t : Int))) (some (.int .i64 (t : Int)))).run Tryz.prog w = .ok (.slice xo (t - f) (t - f)) w) := hsl
 clear hsl
 go_enter Tryz.func184, Tryz.ntmps184
 go_upto_region 3 with fail
 have hif : (if (t : Int) - (d : Int) < 0 then 0 else (t : Int) - (d : Int)) = (f : Int) := by have := HF.out; split <;> omega
 rw [hif]
 clear hif HF hb hn hc ht' hsub hmul
 have hsl := HS.out
 go_wp2
 go_ret
 exact ⟨xo, rfl, HB1.out _, HX.out⟩
theorem qfolded_spec (n : Int) (h1 : -9223372036854775808 ≤ n) (h2 : n ≤ 9223372036854775807) (w : World) :
  Calls Tryz.prog 235 #[.int .i64 n] w fun e w' => e = .returned (.int .u64 (foldN n : Int)) ∧ w' = w := by
 by_cases h0 : 0 ≤ n
 ·go_enter Tryz.func235, Tryz.ntmps235
  go_wp2
  go_ret
  refine ⟨ret_int ?_, rfl⟩
  rw [foldN_pos n h0, show n / 9223372036854775808 = ((0 : Nat) : Int) from by omega, show n * 2 = (((2 * n).toNat : Nat) : Int) from by omega, u64_xor_nat _ _ (by omega) (by omega), Nat.xor_zero]
  omega
 ·go_enter Tryz.func235, Tryz.ntmps235
  go_wp2
  go_ret
  refine ⟨ret_int ?_, rfl⟩
  have e1 : IntKind.u64.wrap (IntKind.u64.wrap n * 2) = (((18446744073709551616 + 2 * n).toNat : Nat) : Int) := by
   rw [IntKind.wrap_u64, IntKind.wrap_u64]; omega
  have e2 : IntKind.u64.wrap (n / 9223372036854775808) = ((18446744073709551615 : Nat) : Int) := by
   rw [IntKind.wrap_u64]; omega
  rw [foldN_neg n (by omega), e1, e2, u64_xor_nat _ _ (by omega) (by omega), xor_ones _ (by omega)]
  omega
theorem IntsAt.at {w : World} {ao : Option Addr} {l : List Int} (h : IntsAt w ao l) (k : Nat) (hk : k < l.length) :
  ∃ b off, ao = some ⟨b, off, none⟩ ∧ (∀ w', Below w.heap.size w w' → w'.cell? ⟨b, off + k, none⟩ = some (.int .i64 (l.getD k 0))) := by
 obtain ⟨b, off, e, hc⟩ := h.lies (by omega)
 refine ⟨b, off, e, fun w' hb => ?_⟩
 have h1 := hc k hk
 rw [World.cell?_of_block (w := w) (hb.block b (lt_cell h1))]
 exact h1
theorem getD_mem (l : List Int) (k : Nat) (h : k < l.length) : l.getD k 0 ∈ l := by
 rw [List.getD_eq_getElem?_getD, List.getElem?_eq_getElem h]; exact List.getElem_mem h
theorem take_snoc (l : List Int) (k : Nat) (h : k < l.length) : l.take (k + 1) = l.take k ++ [l.getD k 0] := by
 rw [List.take_add_one, List.getElem?_eq_getElem h, List.getD_eq_getElem?_getD, List.getElem?_eq_getElem h]; rfl
def ShX (l : List Int) : Prop := True ∧ l.length ≤ 65535
def oneC (k : Nat) (x : Int) : Nat := foldN x / 2 ^ k + 1 + k
def costN (l : List Int) (k : Nat) : Nat := (l.map (oneC k)).sum
theorem costN_append (l m : List Int) (k : Nat) : costN (l ++ m) k = costN l k + costN m k := by unfold costN; rw [List.map_append, List.sum_append]
theorem costN_snoc (l : List Int) (x : Int) (k : Nat) : costN (l ++ [x]) k = costN l k + oneC k x := by rw [costN_append]; simp [costN]
theorem costN_le (l : List Int) (k : Nat) (hk : k ≤ 30) (h : ∀ x ∈ l, foldN x / 2 ^ k ≤ 16777216) : costN l k ≤ 16777247 * l.length := by
 induction l with
 | nil => simp [costN]
 | cons x t ih =>
  have h1 := ih (fun y hy => h y (List.mem_cons_of_mem _ hy))
  have h2 := h x (List.mem_cons_self ..)
  have : costN (x :: t) k = oneC k x + costN t k := by simp [costN]
  rw [this, List.length_cons]; unfold oneC; omega
theorem ShX.take {l : List Int} (h : ShX l) (n : Nat) : ShX (l.take n) := ⟨trivial, by have := h.2; rw [List.length_take]; omega⟩
theorem ShX.drop {l : List Int} (h : ShX l) (n : Nat) : ShX (l.drop n) := ⟨trivial, by have := h.2; rw [List.length_drop]; omega⟩
theorem ShX.part {l : List Int} (h : ShX l) (b o r i : Nat) : ShX (partN l b o r i) := (h.drop _).take _
def codB (l : List Int) (k : Nat) : Bool := l.all fun x => decide (foldN x / 2 ^ k ≤ 16777216)
theorem codB_iff (l : List Int) (k : Nat) : codB l k = true ↔ ∀ x ∈ l, foldN x / 2 ^ k ≤ 16777216 := by unfold codB; simp
def costI (l : List Int) (k : Int) : Int := if k < 0 ∨ 30 < k then -1 else if codB l k.toNat = true then (costN l k.toNat : Int) else -1
theorem cost_spec (l : List Int) (k : Int) (ao : Option Addr) (cap : Nat) (hs : ShX l) (w : World) (hl : IntsAt w ao l) :
  Calls Tryz.prog 220 #[.slice ao l.length cap, .int .i64 k] w fun e w' => e = .returned (.int .i64 (costI l k)) ∧ ∃ n, w' = w.drewN n := by
 by_cases h0 : k < 0
 ·have HC : Hid (costI l k = -1) := by show _ = _; unfold costI; rw [if_pos (Or.inl h0)]
  clear hs hl
  go_enter Tryz.func220, Tryz.ntmps220
  go_wp2_with fail
  go_ret
  exact ⟨by rw [HC.out]; rfl, 0, rfl⟩
 by_cases h1 : 30 < k
 ·have HC : Hid (costI l k = -1) := by show _ = _; unfold costI; rw [if_pos (Or.inr h1)]
  clear hs hl
  go_enter Tryz.func220, Tryz.ntmps220
  go_wp2_with fail
  go_ret
  exact ⟨by rw [HC.out]; rfl, 0, rfl⟩
 obtain ⟨k, rfl⟩ : ∃ k' : Nat, k = k' := ⟨k.toNat, by omega⟩
 have HC : Hid (codB l k = true → costI l (k : Int) = (costN l k : Int)) := fun hc => by unfold costI; rw [if_neg (by omega), Int.toNat_natCast, if_pos hc]
 have HCN : Hid (codB l k = false → costI l (k : Int) = -1) := fun hc => by unfold costI; rw [if_neg (by omega), Int.toNat_natCast, if_neg (by rw [hc]; decide)]
 have HL : Hid (IntsAt w ao l) := hl
 have h2 := hl.len
 have h5 := hs.2
 clear hl hs
 go_enter Tryz.func220, Tryz.ntmps220
 go_wp2_with fail
 go_loopw [5, 7, 8, 17] (fun s5 s7 s8 s17 wr => ∃ j n : Nat, j ≤ l.length ∧ s17 = .int .i64 (j : Int) ∧ s5 = .int .i64 ((costN (l.take j) k : Nat) : Int) ∧ (∀ x ∈ l.take j, foldN x / 2 ^ k ≤ 16777216) ∧ wr = w.drewN n) (fun _ _ _ s17 _ => l.length - (intOf s17).toNat)
 case atStart => exact ⟨0, 0, Nat.zero_le _, rfl, rfl, fun x hx => absurd hx (by simp), rfl⟩
 case round =>
  obtain ⟨j, n, hj, rfl, rfl, hal, rfl⟩ := hrel
  have HAL : Hid (∀ x ∈ l.take j, foldN x / 2 ^ k ≤ 16777216) := hal
  have hc0 := costN_le (l.take j) k (by omega) hal
  have hc : costN (l.take j) k ≤ 1099600000000 := by rw [List.length_take] at hc0; omega
  clear hal hc0
  by_cases hlt : j < l.length
  ·obtain ⟨b1, o1, rfl, q1⟩ := HL.out.at j hlt
   have r1 := q1 (w.drewN n) (below_drewN _ _)
   have hx := HL.out.rng j
   have HN : Hid (costN (l.take (j + 1)) k = costN (l.take j) k + oneC k (l.getD j 0)) := by show _ = _; rw [take_snoc l j hlt, costN_snoc]
   have HT : Hid (l.take (j + 1) = l.take j ++ [l.getD j 0]) := take_snoc l j hlt
   have HM : Hid (l.getD j 0 ∈ l) := getD_mem l j hlt
   clear q1
   generalize l.getD j 0 = x at *
   have kf := qfolded_spec x (by omega) (by omega) (w.drewN n)
   have kfl := foldN_lt x (by omega) (by omega)
   have hdc := div_cast (foldN x) k
   have hqf : foldN x / 2 ^ k ≤ foldN x := Nat.div_le_self _ _
   have HQ : Hid (oneC k x = foldN x / 2 ^ k + 1 + k) := rfl
   by_cases hbig : foldN x / 2 ^ k ≤ 16777216
   ·have HAL2 : Hid (∀ y ∈ l.take (j + 1), foldN y / 2 ^ k ≤ 16777216) := fun y hy => by
     rw [HT.out] at hy
     rcases List.mem_append.1 hy with hy | hy
     ·exact HAL.out y hy
     ·rw [List.mem_singleton] at hy; rw [hy]; exact hbig
    generalize hq : foldN x / 2 ^ k = q at *
    clear hq
    generalize costN (l.take j) k = s at *
    generalize hfx : foldN x = fx at *
    clear hfx
    go_wp2_with fail
    refine kf.mono ?_
    rintro e w4 ⟨rfl, rfl⟩
    go_wp2_with fail
    go_roundw
    case rel => exact ⟨j + 1, n, by omega, by go_num, by rw [HN.out, HQ.out]; go_num, HAL2.out, rfl⟩
    case measure => simp [intOf]; omega
   ·have HNO : Hid (costI l (k : Int) = -1) := HCN.out (by
     cases h : codB l k with
     | false => rfl
     | true => exact absurd ((codB_iff l k).1 h x HM.out) hbig)
    generalize hq : foldN x / 2 ^ k = q at *
    clear hq
    generalize costN (l.take j) k = s at *
    generalize hfx : foldN x = fx at *
    clear hfx
    have hb2 : 16777216 < (q : Int) := by omega
    go_wp2_with fail
    refine kf.mono ?_
    rintro e w4 ⟨rfl, rfl⟩
    go_wp2_with fail
    go_ret
    exact ⟨by rw [HNO.out]; rfl, n, rfl⟩
  ·have HE : Hid (l.take j = l) := List.take_of_length_le (by omega)
   have HY : Hid (costI l (k : Int) = (costN l k : Int)) := HC.out ((codB_iff l k).2 (by have := HAL.out; rwa [HE.out] at this))
   go_wp2_with fail
   go_ret
   exact ⟨by rw [HY.out, HE.out]; rfl, n, rfl⟩
def chkN (c : Rc) (b r : Int) : Int := if chkOk c b r then 0 else 60
theorem chk_no {c : Rc} {b r : Int} (h : ¬ chkOk c b r) : chkN c b r = 60 := by unfold chkN; rw [if_neg h]
theorem chk_yes {c : Rc} {b r : Int} (h : chkOk c b r) : chkN c b r = 0 := by unfold chkN; rw [if_pos h]
structure CB (w : World) (c : Rc) (pa : Option Addr) (pc : Nat) (ea : Option Addr) (ec : Nat) (q : Nat) (p s f : Int) (wx : World) : Prop where
 rb : RB w c pa pc ea ec wx
 box : wx.heap[q]? = some (.cells #[.int .i64 p, .int .i64 s, .int .i64 f] 198 (0, 0))
 lt : w.heap.size < q
section
variable {w wx w' : World} {c : Rc} {pa : Option Addr} {pc : Nat} {ea : Option Addr} {ec : Nat} {q : Nat} {p s f : Int}
theorem CB.new (h : RB w c pa pc ea ec wx) (p s f : Int) : CB w c pa pc ea ec wx.heap.size p s f (wx.alloc (.cells #[.int .i64 p, .int .i64 s, .int .i64 f] 198)) :=
 ⟨h.next ((Below.refl _ _).alloc (Nat.le_refl _) _), heap_alloc_new _ _, lt_of_block h.box⟩
theorem CB.next (h : CB w c pa pc ea ec q p s f wx) (hb : Below wx.heap.size wx w') : CB w c pa pc ea ec q p s f w' :=
 ⟨h.rb.next hb, by rw [hb.block _ (lt_of_block h.box)]; exact h.box, h.lt⟩
theorem CB.drewN (h : CB w c pa pc ea ec q p s f wx) (n : Nat) : CB w c pa pc ea ec q p s f (wx.drewN n) := h.next (below_drewN _ _)
theorem CB.q0 (h : CB w c pa pc ea ec q p s f wx) : wx.cell? ⟨q, 0, none⟩ = some (.int .i64 p) := by rw [cell_of_row _ _ _ _ _ _ h.box]; rfl
end
theorem check_spec (c : Rc) (b r : Int) (pa : Option Addr) (pc : Nat) (ea : Option Addr) (ec : Nat) (w : World) (hr : RcAt w c pa ea) :
  Calls Tryz.prog 179 #[riceV c pa pc ea ec, .int .i64 b, .int .i64 r] w fun en w' => en = .returned (.int .i64 (chkN c b r)) ∧ Below w.heap.size w w' := by
 have HB0 : Hid (RB w c pa pc ea ec (w.alloc (.cells (riceC c pa pc ea ec) 25))) := RB.new w c pa pc ea ec
 have HR : Hid (RcAt w c pa ea) := hr
 clear hr
 by_cases hcut : cutOk b r c.o
 case neg =>
  have HN : Hid (chkN c b r = 60) := chk_no (fun h => hcut h.2.1)
  have KC : Hid (∀ wx, Calls Tryz.prog 180 #[.int .i64 b, .int .i64 r, .int .i64 c.o] wx fun e w' => ∃ p s f, e = .returned (.tuple #[cutV p s f, .bool false]) ∧ Below wx.heap.size wx w') := fun wx => cutOf_no b c.o r hcut wx
  clear hcut
  go_enter Tryz.func179, Tryz.ntmps179
  go_wp2_with fail
  generalize hwa : w.alloc _ = wa
  have HA : Hid (RB w c pa pc ea ec wa) := by rw [← hwa]; exact HB0.out
  clear hwa HB0
  refine (KC.out wa).mono ?_
  rintro en w2 ⟨p, s, f, rfl, hb2⟩
  have HR2 : Hid (RB w c pa pc ea ec w2) := HA.out.next hb2
  clear HA hb2
  have HC2 : Hid (CB w c pa pc ea ec w2.heap.size p s f (w2.alloc (.cells #[.int .i64 p, .int .i64 s, .int .i64 f] 198))) := CB.new HR2.out _ _ _
  clear HR2
  have x0 := HC2.out.rb.c0
  have x2 := HC2.out.rb.c2
  have x3 := HC2.out.rb.c3
  have y0 := HC2.out.q0
  have HBL : Hid (Below w.heap.size w (w2.alloc (.cells #[.int .i64 p, .int .i64 s, .int .i64 f] 198))) := HC2.out.rb.below
  go_wp2_with fail
  go_ret
  exact ⟨by rw [HN.out]; rfl, HBL.out⟩
 case pos =>
  obtain ⟨b, r, o, rfl, rfl, ho, hC⟩ := Cut.of hcut
  have KC : Hid (∀ wx, Calls Tryz.prog 180 #[.int .i64 (b : Int), .int .i64 (r : Int), .int .i64 c.o] wx fun e w' => e = .returned (.tuple #[cutV ((2 ^ o : Nat) : Int) ((b / 2 ^ o : Nat) : Int) (r : Int), .bool true]) ∧ Below wx.heap.size wx w') := fun wx => by rw [ho]; exact cutOf_yes b o r hC wx
  have HCUT : Hid (cutOk b r c.o) := hcut
  have HO : Hid (2 ^ c.o.toNat = 2 ^ o) := by show _ = _; rw [show c.o.toNat = o by omega]
  have hp := pow15 o hC.o15
  clear hcut ho
  generalize hpn : 2 ^ o = N at *
  generalize b / N = d at *
  clear hpn
  have hn32 := hp.2
  have hE := HR.out.E.len
  have hP := HR.out.P.len
  by_cases m0 : c.m < 0
  ·have hno : ¬ chkOk c b r := fun h => by have := h.1; omega
   have HN : Hid (chkN c b r = 60) := chk_no hno
   clear hno
   go_enter Tryz.func179, Tryz.ntmps179
   go_wp2_with fail
   generalize hwa : w.alloc _ = wa
   have HA : Hid (RB w c pa pc ea ec wa) := by rw [← hwa]; exact HB0.out
   clear hwa HB0
   refine (KC.out wa).mono ?_
   rintro en w2 ⟨rfl, hb2⟩
   have HR2 : Hid (RB w c pa pc ea ec w2) := HA.out.next hb2
   clear HA hb2
   have HC2 : Hid (CB w c pa pc ea ec w2.heap.size (N : Int) (d : Int) (r : Int) (w2.alloc (.cells #[.int .i64 (N : Int), .int .i64 (d : Int), .int .i64 (r : Int)] 198))) := CB.new HR2.out _ _ _
   clear HR2
   have x0 := HC2.out.rb.c0
   have x2 := HC2.out.rb.c2
   have x3 := HC2.out.rb.c3
   have y0 := HC2.out.q0
   have HBL : Hid (Below w.heap.size w (w2.alloc (.cells #[.int .i64 (N : Int), .int .i64 (d : Int), .int .i64 (r : Int)] 198))) := HC2.out.rb.below
   go_wp2_with fail
   go_ret
   exact ⟨by rw [HN.out]; rfl, HBL.out⟩
  by_cases m1 : 1 < c.m
  ·have hno : ¬ chkOk c b r := fun h => by have := h.1; omega
   have HN : Hid (chkN c b r = 60) := chk_no hno
   clear hno
   go_enter Tryz.func179, Tryz.ntmps179
   go_wp2_with fail
   generalize hwa : w.alloc _ = wa
   have HA : Hid (RB w c pa pc ea ec wa) := by rw [← hwa]; exact HB0.out
   clear hwa HB0
   refine (KC.out wa).mono ?_
   rintro en w2 ⟨rfl, hb2⟩
   have HR2 : Hid (RB w c pa pc ea ec w2) := HA.out.next hb2
   clear HA hb2
   have HC2 : Hid (CB w c pa pc ea ec w2.heap.size (N : Int) (d : Int) (r : Int) (w2.alloc (.cells #[.int .i64 (N : Int), .int .i64 (d : Int), .int .i64 (r : Int)] 198))) := CB.new HR2.out _ _ _
   clear HR2
   have x0 := HC2.out.rb.c0
   have x2 := HC2.out.rb.c2
   have x3 := HC2.out.rb.c3
   have y0 := HC2.out.q0
   have HBL : Hid (Below w.heap.size w (w2.alloc (.cells #[.int .i64 (N : Int), .int .i64 (d : Int), .int .i64 (r : Int)] 198))) := HC2.out.rb.below
   go_wp2_with fail
   go_ret
   exact ⟨by rw [HN.out]; rfl, HBL.out⟩
  by_cases l1 : c.P.length = N
  case neg =>
   have hno : ¬ chkOk c b r := fun h => l1 (by have := h.2.2.1; rwa [HO.out] at this)
   have hbn : ((c.P.length : Int) != (N : Int)) = true := by rw [bne_iff_ne]; omega
   have HN : Hid (chkN c b r = 60) := chk_no hno
   clear hno
   go_enter Tryz.func179, Tryz.ntmps179
   go_wp2_with fail
   generalize hwa : w.alloc _ = wa
   have HA : Hid (RB w c pa pc ea ec wa) := by rw [← hwa]; exact HB0.out
   clear hwa HB0
   refine (KC.out wa).mono ?_
   rintro en w2 ⟨rfl, hb2⟩
   have HR2 : Hid (RB w c pa pc ea ec w2) := HA.out.next hb2
   clear HA hb2
   have HC2 : Hid (CB w c pa pc ea ec w2.heap.size (N : Int) (d : Int) (r : Int) (w2.alloc (.cells #[.int .i64 (N : Int), .int .i64 (d : Int), .int .i64 (r : Int)] 198))) := CB.new HR2.out _ _ _
   clear HR2
   have x0 := HC2.out.rb.c0
   have x2 := HC2.out.rb.c2
   have x3 := HC2.out.rb.c3
   have y0 := HC2.out.q0
   have HBL : Hid (Below w.heap.size w (w2.alloc (.cells #[.int .i64 (N : Int), .int .i64 (d : Int), .int .i64 (r : Int)] 198))) := HC2.out.rb.below
   go_wp2_with fail
   go_ret
   exact ⟨by rw [HN.out]; rfl, HBL.out⟩
  have hbp : ((c.P.length : Int) != (N : Int)) = false := by rw [bne_eq_false_iff_eq]; omega
  by_cases l2 : c.E.length = N
  case neg =>
   have hno : ¬ chkOk c b r := fun h => l2 (by have := h.2.2.2.1; rwa [HO.out] at this)
   have hbn : ((c.E.length : Int) != (N : Int)) = true := by rw [bne_iff_ne]; omega
   have HN : Hid (chkN c b r = 60) := chk_no hno
   clear hno
   go_enter Tryz.func179, Tryz.ntmps179
   go_wp2_with fail
   generalize hwa : w.alloc _ = wa
   have HA : Hid (RB w c pa pc ea ec wa) := by rw [← hwa]; exact HB0.out
   clear hwa HB0
   refine (KC.out wa).mono ?_
   rintro en w2 ⟨rfl, hb2⟩
   have HR2 : Hid (RB w c pa pc ea ec w2) := HA.out.next hb2
   clear HA hb2
   have HC2 : Hid (CB w c pa pc ea ec w2.heap.size (N : Int) (d : Int) (r : Int) (w2.alloc (.cells #[.int .i64 (N : Int), .int .i64 (d : Int), .int .i64 (r : Int)] 198))) := CB.new HR2.out _ _ _
   clear HR2
   have x0 := HC2.out.rb.c0
   have x2 := HC2.out.rb.c2
   have x3 := HC2.out.rb.c3
   have y0 := HC2.out.q0
   have HBL : Hid (Below w.heap.size w (w2.alloc (.cells #[.int .i64 (N : Int), .int .i64 (d : Int), .int .i64 (r : Int)] 198))) := HC2.out.rb.below
   go_wp2_with fail
   go_ret
   exact ⟨by rw [HN.out]; rfl, HBL.out⟩
  have hbe : ((c.E.length : Int) != (N : Int)) = false := by rw [bne_eq_false_iff_eq]; omega
  have KM : Hid (∀ k e wx, Calls Tryz.prog 218 #[.int .i64 c.m, .int .i64 k, .int .i64 e] wx fun en w' => en = .returned (.bool (decide (mayOk c.m k e))) ∧ w' = wx) := fun k e wx => mayBe_spec c.m k e (by omega) (by omega) wx
  have HNB : Hid (∀ j, j < N → ¬ mayOk c.m (c.P.getD j 0) (c.E.getD j 0) → chkN c b r = 60) := fun j hj h => chk_no (fun hh => h (hh.2.2.2.2 j (by rw [HO.out]; exact hj)))
  have HYS : Hid ((∀ j, j < N → mayOk c.m (c.P.getD j 0) (c.E.getD j 0)) → chkN c b r = 0) := fun h => chk_yes ⟨⟨by omega, by omega⟩, HCUT.out, by rw [HO.out]; exact l1, by rw [HO.out]; exact l2, fun j hj => h j (by rw [HO.out] at hj; exact hj)⟩
  have HL1 : Hid (c.P.length = N) := l1
  have HL2 : Hid (c.E.length = N) := l2
  clear l1 l2
  go_enter Tryz.func179, Tryz.ntmps179
  go_wp2_with fail
  generalize hwa : w.alloc _ = wa
  have HA : Hid (RB w c pa pc ea ec wa) := by rw [← hwa]; exact HB0.out
  clear hwa HB0
  refine (KC.out wa).mono ?_
  rintro en w2 ⟨rfl, hb2⟩
  have HR2 : Hid (RB w c pa pc ea ec w2) := HA.out.next hb2
  clear HA hb2
  have HC2 : Hid (CB w c pa pc ea ec w2.heap.size (N : Int) (d : Int) (r : Int) (w2.alloc (.cells #[.int .i64 (N : Int), .int .i64 (d : Int), .int .i64 (r : Int)] 198))) := CB.new HR2.out _ _ _
  clear HR2
  have x0 := HC2.out.rb.c0
  have x2 := HC2.out.rb.c2
  have x3 := HC2.out.rb.c3
  have y0 := HC2.out.q0
  have HBL : Hid (Below w.heap.size w (w2.alloc (.cells #[.int .i64 (N : Int), .int .i64 (d : Int), .int .i64 (r : Int)] 198))) := HC2.out.rb.below
  go_wp2_with fail
  clear x0 x2 x3 y0
  generalize hwc : w2.alloc _ = wc at *
  generalize w2.heap.size = q at *
  clear hwc HBL
  go_loopw [9, 46] (fun s9 s46 wr => ∃ j : Nat, j ≤ N ∧ s46 = .int .i64 (j : Int) ∧ (∀ i, i < j → mayOk c.m (c.P.getD i 0) (c.E.getD i 0)) ∧ CB w c pa pc ea ec q (N : Int) (d : Int) (r : Int) wr) (fun _ s46 _ => N - (intOf s46).toNat)
  case atStart => exact ⟨0, Nat.zero_le _, rfl, fun i hi => absurd hi (Nat.not_lt_zero _), HC2.out⟩
  case round =>
   obtain ⟨j, hj, rfl, hs, hcb⟩ := hrel
   have HW : Hid (CB w c pa pc ea ec q (N : Int) (d : Int) (r : Int) wr) := hcb
   clear hcb HC2
   have HS : Hid (∀ i, i < j → mayOk c.m (c.P.getD i 0) (c.E.getD i 0)) := hs
   clear hs
   by_cases hlt : j < N
   ·have hjP : j < c.P.length := by rw [HL1.out]; exact hlt
    have hjE : j < c.E.length := by rw [HL2.out]; exact hlt
    obtain ⟨b1, o1, e1, q1⟩ := HR.out.P.at j hjP
    obtain ⟨b2, o2, e2, q2⟩ := HR.out.E.at j hjE
    have r1 := q1 wr HW.out.rb.below
    have r2 := q2 wr HW.out.rb.below
    have x0 := HW.out.rb.c0
    have x2 := HW.out.rb.c2
    have x3 := HW.out.rb.c3
    rw [e1] at x2
    rw [e2] at x3
    clear q1 q2 e1 e2
    by_cases hx : mayOk c.m (c.P.getD j 0) (c.E.getD j 0)
    ·have HX : Hid (∀ i, i = j → mayOk c.m (c.P.getD i 0) (c.E.getD i 0)) := fun i hi => by rw [hi]; exact hx
     have km := KM.out (c.P.getD j 0) (c.E.getD j 0)
     rw [decide_eq_true hx] at km
     clear hx
     generalize c.P.getD j 0 = kk at *
     generalize c.E.getD j 0 = ee at *
     go_wp2_with fail
     go_quiet ((go_at_call 218; exact Calls.quiet_of_same (km _)))
     go_wp2_with fail
     go_roundw
     case rel =>
      refine ⟨j + 1, by omega, by go_num, fun i hi => ?_, HW.out.drewN _⟩
      by_cases e : i = j
      ·exact HX.out i e
      ·exact HS.out i (by omega)
     case measure => simp [intOf]; omega
    ·have HN : Hid (chkN c b r = 60) := HNB.out j hlt hx
     have km := KM.out (c.P.getD j 0) (c.E.getD j 0)
     rw [decide_eq_false hx] at km
     clear hx
     generalize c.P.getD j 0 = kk at *
     generalize c.E.getD j 0 = ee at *
     go_wp2_with fail
     go_quiet ((go_at_call 218; exact Calls.quiet_of_same (km _)))
     go_wp2_with fail
     go_ret
     exact ⟨by rw [HN.out]; rfl, (HW.out.drewN _).rb.below⟩
   ·have HN : Hid (chkN c b r = 0) := HYS.out (fun i hi => HS.out i (by omega))
    go_wp2_with fail
    go_ret
    exact ⟨by rw [HN.out]; rfl, HW.out.rb.below⟩
theorem partL_spec (l : List Int) (b o r i : Nat) (h : Cut b o r) (hi : i < 2 ^ o) (ao : Option Addr) (cap : Nat) (hn : l.length = b - r) (hc : l.length ≤ cap) (h0 : ao = none → cap = 0) (P : Int) (w : World) (hl : IntsAt w ao l) :
  Calls Tryz.prog 184 #[cutV P ((b / 2 ^ o : Nat) : Int) (r : Int), .slice ao l.length cap, .int .i64 (i : Int)] w fun e w' => ∃ xo, e = .returned (.slice xo (partN l b o r i).length (partN l b o r i).length) ∧ Below w.heap.size w w' ∧ IntsAt w' xo (partN l b o r i) ∧ (∀ bb, blockOf xo = some bb → blockOf ao = some bb) ∧ (∀ bb off, ao = some ⟨bb, off, none⟩ → 0 < (partN l b o r i).length → xo = some ⟨bb, off + frN b o r i, none⟩) := by
 have hlen := partN_length l h hn i hi
 refine (part_spec b o r i h hi ao l.length cap hn hc h0 P w).mono ?_
 rintro e w' ⟨xo, rfl, hb, h1, h2, h3⟩
 rw [hlen]
 refine ⟨xo, rfl, hb, ?_, h3, h2⟩
 refine (hl.below hb).part _ _ ?_ xo h2
 have := frN_bound h (i + 1) hi; have := frN_mono b o r i
 omega
theorem fit_coded (x : Int) (k : Int) (h0 : 0 ≤ k) (h1 : k ≤ 30) (h : foldN x / 2 ^ k.toNat ≤ 16777216) : fitE k (-1) x := by
 unfold fitE rcwE; rw [if_pos rfl, if_pos ⟨h0, h1, h⟩]
structure Rok (c : Rc) (b o r : Nat) : Prop where
 cut : Cut b o r
 ho : c.o = o
 m0 : 0 ≤ c.m
 m1 : c.m ≤ 1
 lP : c.P.length = 2 ^ o
 lE : c.E.length = 2 ^ o
 may : allMay c.m c.P c.E (2 ^ o)
theorem Rok.of {c : Rc} {b r : Int} (h : chkOk c b r) : ∃ b' r' o' : Nat, b = b' ∧ r = r' ∧ Rok c b' o' r' := by
 obtain ⟨b', r', o', e1, e2, e3, hc⟩ := Cut.of h.2.1
 have e4 : c.o.toNat = o' := by omega
 have h3 := h.2.2
 rw [e4] at h3
 exact ⟨b', r', o', e1, e2, hc, e3, h.1.1, h.1.2, h3.1, h3.2.1, h3.2.2⟩
theorem Rok.chk {c : Rc} {b o r : Nat} (h : Rok c b o r) : chkOk c b r := by
 have e4 : c.o.toNat = o := by have := h.ho; omega
 refine ⟨⟨h.m0, h.m1⟩, by rw [h.ho]; exact h.cut.ok, ?_⟩
 rw [e4]
 exact ⟨h.lP, h.lE, h.may⟩
theorem Rok.row {c : Rc} {b o r : Nat} (h : Rok c b o r) (j : Nat) (hj : j < 2 ^ o) : (c.E.getD j 0 = -1 ∧ 0 ≤ c.P.getD j 0 ∧ c.P.getD j 0 ≤ 30) ∨ (0 ≤ c.E.getD j 0 ∧ c.E.getD j 0 ≤ 31 ∧ c.P.getD j 0 = 0) := by
 have := h.may j hj; have := h.m1
 unfold mayOk at this
 rcases h.may j hj with h1 | h1
 ·left; exact ⟨h1.1, h1.2.1, by omega⟩
 ·right; exact h1
def fitB (c : Rc) (b o r : Nat) (l : List Int) : Bool := decide (l.length = b - r) && (List.range (2 ^ o)).all (fun i => allT (c.P.getD i 0) (c.E.getD i 0) (partN l b o r i))
theorem fitB_iff (c : Rc) (b o r : Nat) (l : List Int) : fitB c b o r l = true ↔ l.length = b - r ∧ allFit c b o r l (2 ^ o) := by
 unfold fitB allFit
 rw [Bool.and_eq_true_iff, List.all_eq_true, decide_eq_true_iff]
 exact ⟨fun h => ⟨h.1, fun i hi => (allT_iff _ _ _).1 (h.2 i (List.mem_range.2 hi))⟩, fun h => ⟨h.1, fun i hi => (allT_iff _ _ _).2 (h.2 i (List.mem_range.1 hi))⟩⟩
theorem fitB_yes {c : Rc} {b o r : Nat} {l : List Int} (h : l.length = b - r ∧ allFit c b o r l (2 ^ o)) : fitB c b o r l = true := (fitB_iff c b o r l).2 h
theorem fitB_no {c : Rc} {b o r : Nat} {l : List Int} (h : ¬ (l.length = b - r ∧ allFit c b o r l (2 ^ o))) : fitB c b o r l = false := bool_no (fitB_iff c b o r l) h
theorem RB.of_box {w wx : World} {c : Rc} {pa : Option Addr} {pc : Nat} {ea : Option Addr} {ec : Nat} (h : wx.heap[w.heap.size]? = some (.cells (riceC c pa pc ea ec) 25 (0, 0))) :
  wx.cell? ⟨w.heap.size, 0, none⟩ = some (.int .i64 c.m) ∧ wx.cell? ⟨w.heap.size, 1, none⟩ = some (.int .i64 c.o) ∧ wx.cell? ⟨w.heap.size, 2, none⟩ = some (.slice pa c.P.length pc) ∧ wx.cell? ⟨w.heap.size, 3, none⟩ = some (.slice ea c.E.length ec) := by
 refine ⟨?_, ?_, ?_, ?_⟩ <;> (rw [cell_of_row _ _ _ _ _ _ h]; rfl)
def IntsBlk (w : World) (g : Nat) (L : List Int) : Prop := w.heap[g]? = some (.cells (intsC L).toArray 3 (0, 0))
theorem IntsBlk.lt {w : World} {g : Nat} {L : List Int} (h : IntsBlk w g L) : g < w.heap.size := lt_of_block h
theorem IntsBlk.stays {w w' : World} {g : Nat} {L : List Int} (h : IntsBlk w g L) {S : Nat → Prop} (hS : Stays S w w') (hn : ¬ S g) : IntsBlk w' g L := by
 unfold IntsBlk; rw [hS.block g h.lt hn]; exact h
theorem IntsBlk.below {w w' : World} {g : Nat} {L : List Int} (h : IntsBlk w g L) (hb : Below w.heap.size w w') : IntsBlk w' g L := h.stays (Stays.of_below hb (fun _ => False)) (fun h => h)
theorem IntsBlk.cell {w : World} {g : Nat} {L : List Int} (h : IntsBlk w g L) (j : Nat) (hj : j < L.length) : w.cell? ⟨g, j, none⟩ = some (.int .i64 (L.getD j 0)) := by
 rw [cell_of_row _ _ _ _ _ _ h]
 simp [intsC, List.getD_eq_getElem?_getD, List.getElem?_eq_getElem hj]
theorem IntsBlk.frozen {w : World} {g : Nat} {L : List Int} (h : IntsBlk w g L) (j : Nat) : w.frozen? ⟨g, j, none⟩ = false := by
 unfold IntsBlk at h
 simp [World.frozen?, h]
theorem IntsBlk.set {w : World} {g : Nat} {L : List Int} (h : IntsBlk w g L) (j : Nat) (v : Int) : IntsBlk (w.setCell ⟨g, j, none⟩ (.int .i64 v)) g (L.set j v) := by
 unfold IntsBlk
 rw [block_setCell _ _ _ _ _ _ h]
 congr 2
 simp [intsC, List.map_set]
theorem IntsBlk.other {w : World} {g : Nat} {L : List Int} (h : IntsBlk w g L) (p : Addr) (u : Value) (hp : p.block ≠ g) : IntsBlk (w.setCell p u) g L := by
 unfold IntsBlk; rw [Below.heap_setCell w p u g (fun e => hp e.symm)]; exact h
theorem IntsBlk.ints {w : World} {g : Nat} {L : List Int} (h : IntsBlk w g L) (hl : L.length ≤ 17592186044415) (hn : ∀ n ∈ L, -9223372036854775808 ≤ n ∧ n ≤ 9223372036854775807) : IntsAt w (some ⟨g, 0, none⟩) L :=
 ⟨hl, hn, fun _ => ⟨g, 0, rfl, fun j hj => by rw [Nat.zero_add]; exact h.cell j hj⟩⟩
theorem set_mid (A X C : List Int) (z : Nat) (v : Int) (hz : 0 < z) : (A ++ X ++ List.replicate z 0 ++ C).set (A.length + X.length) v = A ++ (X ++ [v]) ++ List.replicate (z - 1) 0 ++ C := by
 obtain ⟨z, rfl⟩ : ∃ y, z = y + 1 := ⟨z - 1, by omega⟩
 rw [List.append_assoc (A ++ X), List.set_append_right _ _ (by rw [List.length_append]; omega)]
 rw [List.length_append, Nat.sub_self, List.replicate_succ, List.cons_append, List.set_cons_zero]
 simp
theorem info_Rice : (Tryz.prog.info? 25).map (·.size) = some 4 := by kernel_rfl
structure HS0 (w : World) (wx : World) : Prop where
 b0 : wx.heap[w.heap.size]? = some (.cells #[.int .i64 0, .int .i64 0, .slice none 0 0, .slice none 0 0] 25 (0, 0))
 b1 : wx.heap[w.heap.size + 1]? = some (.cells #[.int .i64 0, .int .i64 0, .int .i64 0] 198 (0, 0))
theorem block_set2 (w : World) (p i k : Nat) (cs : Array Value) (t : TypeId) (u : Value) (h : w.heap[k]? = some (.cells cs t (0, 0))) (hk : k ≠ p) : (w.setCell ⟨p, i, none⟩ u).heap[k]? = some (.cells cs t (0, 0)) := by
 rw [Below.heap_setCell w _ _ k hk]; exact h
theorem made_ints (N : Nat) : madeCells #[Value.int .i64 0] N = (intsC (List.replicate N 0)).toArray := by
 apply Array.toList_inj.1
 rw [toList_madeCells_one]
 simp [intsC]
theorem heap_three (w : World) (A B C : Obj) : (((w.alloc A).alloc B).alloc C).drew.heap[w.heap.size]? = some A ∧ (((w.alloc A).alloc B).alloc C).drew.heap[w.heap.size + 1]? = some B ∧ (((w.alloc A).alloc B).alloc C).drew.heap[w.heap.size + 2]? = some C := by
 have h1 : Below (w.heap.size + 1) (w.alloc A) (((w.alloc A).alloc B).alloc C) := (((Below.refl _ _).alloc (by simp) _).alloc (by simp) _)
 have h2 : Below (w.heap.size + 2) ((w.alloc A).alloc B) (((w.alloc A).alloc B).alloc C) := (Below.refl _ _).alloc (by simp) _
 have e1 : (w.alloc A).heap.size = w.heap.size + 1 := by simp
 have e2 : ((w.alloc A).alloc B).heap.size = w.heap.size + 2 := by simp
 refine ⟨?_, ?_, ?_⟩
 ·show (((w.alloc A).alloc B).alloc C).heap[w.heap.size]? = _
  rw [h1.block _ (by omega)]; exact heap_alloc_new _ _
 ·show (((w.alloc A).alloc B).alloc C).heap[w.heap.size + 1]? = _
  rw [h2.block _ (by omega), ← e1]; exact heap_alloc_new _ _
 ·show (((w.alloc A).alloc B).alloc C).heap[w.heap.size + 2]? = _
  rw [← e2]; exact heap_alloc_new _ _
theorem below_three (w : World) (A B C : Obj) : Below w.heap.size w (((w.alloc A).alloc B).alloc C).drew := ((((Below.refl _ _).alloc (Nat.le_refl _) _).alloc (by simp) _).alloc (by simp; omega) _).drew
theorem set4_a {wx : World} (n : Nat) (v0 v1 v2 v3 : Value) {a0 a1 a2 a3 : Value} {t : TypeId} (h : wx.heap[n]? = some (.cells #[a0, a1, a2, a3] t (0, 0))) : ((((wx.setCell ⟨n, 0, none⟩ v0).setCell ⟨n, 1, none⟩ v1).setCell ⟨n, 2, none⟩ v2).setCell ⟨n, 3, none⟩ v3).heap[n]? = some (.cells #[v0, v1, v2, v3] t (0, 0)) := by
 rw [block_setCell _ _ _ _ _ _ (block_setCell _ _ _ _ _ _ (block_setCell _ _ _ _ _ _ (block_setCell _ _ _ _ _ _ h)))]
 rfl
theorem set4_d {wx : World} (n : Nat) (v0 v1 v2 v3 : Value) (j : Nat) (h0 : j ≠ n) : ((((wx.setCell ⟨n, 0, none⟩ v0).setCell ⟨n, 1, none⟩ v1).setCell ⟨n, 2, none⟩ v2).setCell ⟨n, 3, none⟩ v3).heap[j]? = wx.heap[j]? := by
 rw [Below.heap_setCell _ _ _ j h0, Below.heap_setCell _ _ _ j h0, Below.heap_setCell _ _ _ j h0, Below.heap_setCell _ _ _ j h0]
theorem set_next (X : List Int) (z : Nat) (v : Int) (hz : 0 < z) : (X ++ List.replicate z 0).set X.length v = X ++ [v] ++ List.replicate (z - 1) 0 := by
 have h := set_mid [] X [] z v hz
 simpa using h
def encR (c : Rc) (b r : Int) (l : List Int) : Bool := decide (chkOk c b r) && fitB c b.toNat c.o.toNat r.toNat l
theorem encR_yes {c : Rc} {b r : Int} {l : List Int} (h : encR c b r l = true) : ∃ b' o' r' : Nat, b = b' ∧ r = r' ∧ Rok c b' o' r' ∧ fitB c b' o' r' l = true := by
 obtain ⟨h1, h2⟩ := Bool.and_eq_true_iff.1 h
 obtain ⟨b', r', o', rfl, rfl, hk⟩ := Rok.of (of_decide_eq_true h1)
 have e : c.o.toNat = o' := by have := hk.ho; omega
 rw [e] at h2
 exact ⟨b', o', r', rfl, rfl, hk, by simpa using h2⟩
def encN (c : Rc) (b r : Int) (l : List Int) : Int := if encR c b r l then 0 else 60
def encL (c : Rc) (b r : Int) (l : List Int) : List Nat := if encR c b r l then encB c b.toNat r.toNat l else []
theorem encB_room (c : Rc) (b o r : Nat) (hk : Rok c b o r) (l : List Int) (hlen : l.length = b - r) (h5 : l.length ≤ 65535) : (encB c b r l).length ≤ 1300000000000 := by
 have hot : c.o.toNat = o := by have := hk.ho; omega
 have h1 := parts_room c hk.m1 hk.cut l hlen (2 ^ o) (Nat.le_refl _) h5
 have h2 := putB_short c.m 2 (by omega)
 have h3 := putB_short c.o 4 (by omega)
 unfold encB
 rw [hot]
 simp only [List.length_append]
 omega
def foreS (C l : List Int) (a : Nat) : Nat → Int
 | 0 => 0
 | i + 1 => wrap64 (foreS C l a i + wrap64 (C.getD i 0 * l.getD (a - 1 - i) 0))
def foreN (C : List Int) (sh : Nat) (l : List Int) (a : Nat) : Int := foreS C l a C.length / 2 ^ sh
def leftN (C : List Int) (sh : Nat) (l : List Int) : Nat → List Int
 | 0 => []
 | n + 1 => leftN C sh l n ++ [wrap64 (l.getD (C.length + n) 0 - foreN C sh l (C.length + n))]
abbrev Rng (l : List Int) : Prop := ∀ n ∈ l, -9223372036854775808 ≤ n ∧ n ≤ 9223372036854775807
theorem wrap_rng (n : Int) : -9223372036854775808 ≤ wrap64 n ∧ wrap64 n ≤ 9223372036854775807 := by unfold wrap64; omega
theorem foreS_rng (C l : List Int) (a k : Nat) : -9223372036854775808 ≤ foreS C l a k ∧ foreS C l a k ≤ 9223372036854775807 := by
 cases k with
 | zero => unfold foreS; omega
 | succ k => exact wrap_rng _
theorem shr_rng (x : Int) (sh : Nat) (h : -9223372036854775808 ≤ x ∧ x ≤ 9223372036854775807) : -9223372036854775808 ≤ x / 2 ^ sh ∧ x / 2 ^ sh ≤ 9223372036854775807 := by
 have hp : (1 : Int) ≤ 2 ^ sh := by
  have := Nat.one_le_two_pow (n := sh)
  have e : ((2 ^ sh : Nat) : Int) = (2 : Int) ^ sh := by simp
  omega
 generalize (2 : Int) ^ sh = P at *
 refine ⟨?_, ?_⟩
 ·refine Int.le_ediv_of_mul_le (by omega) ?_
  have : (-9223372036854775808 : Int) * P ≤ -9223372036854775808 * 1 := Int.mul_le_mul_of_nonpos_left (by omega) (by omega)
  omega
 ·by_cases h0 : 0 ≤ x
  ·have := Int.ediv_le_self P h0; omega
  ·have := Int.ediv_neg_of_neg_of_pos (show x < 0 by omega) (show (0 : Int) < P by omega); omega
theorem leftN_len (C : List Int) (sh : Nat) (l : List Int) (n : Nat) : (leftN C sh l n).length = n := by
 induction n with
 | zero => rfl
 | succ n ih => unfold leftN; rw [List.length_append, ih]; rfl
theorem leftN_rng (C : List Int) (sh : Nat) (l : List Int) (n : Nat) : Rng (leftN C sh l n) := by
 induction n with
 | zero => intro x hx; cases hx
 | succ n ih =>
  intro x hx
  rcases List.mem_append.1 hx with hx | hx
  ·exact ih x hx
  ·rw [List.mem_singleton] at hx; rw [hx]; exact wrap_rng _
theorem getD_app_left (a b : List Int) (i : Nat) (h : i < a.length) : (a ++ b).getD i 0 = a.getD i 0 := by
 rw [List.getD_eq_getElem?_getD, List.getD_eq_getElem?_getD, List.getElem?_append_left h]
theorem getD_app_len (a : List Int) (x : Int) : (a ++ [x]).getD a.length 0 = x := by
 rw [List.getD_eq_getElem?_getD, List.getElem?_append_right (Nat.le_refl _), Nat.sub_self]; rfl
theorem leftN_at (C : List Int) (sh : Nat) (l : List Int) (n i : Nat) (h : i < n) : (leftN C sh l n).getD i 0 = wrap64 (l.getD (C.length + i) 0 - foreN C sh l (C.length + i)) := by
 induction n with
 | zero => omega
 | succ n ih =>
  have hl := leftN_len C sh l n
  unfold leftN
  by_cases e : i = n
  ·subst e
   have h2 := getD_app_len (leftN C sh l i) (wrap64 (l.getD (C.length + i) 0 - foreN C sh l (C.length + i)))
   rw [hl] at h2; exact h2
  ·rw [getD_app_left _ _ _ (by omega)]; exact ih (by omega)
theorem take_next (l : List Int) (n : Nat) (h : n < l.length) : l.take n ++ [l.getD n 0] = l.take (n + 1) := by
 rw [List.take_add_one, List.getD_eq_getElem?_getD, List.getElem?_eq_getElem h]; rfl
def wF (o : Nat) : List Int := if o = 0 then [] else if o = 1 then [1] else if o = 2 then [2, -1] else if o = 3 then [3, -3, 1] else [4, -6, 4, -1]
theorem wF_len (o : Nat) (h : o ≤ 4) : (wF o).length = o := by
 rcases (show o = 0 ∨ o = 1 ∨ o = 2 ∨ o = 3 ∨ o = 4 by omega) with rfl | rfl | rfl | rfl | rfl <;> rfl
def dvB (l : List Int) (k : Nat) : Bool := l.all fun n => n % 2 ^ k == 0
theorem dvB_iff (l : List Int) (k : Nat) : dvB l k = true ↔ ∀ n ∈ l, n % 2 ^ k = 0 := by unfold dvB; simp
theorem dvB_mono (l : List Int) (j k : Nat) (h : j ≤ k) (hk : dvB l k = true) : dvB l j = true := by
 rw [dvB_iff] at *
 intro n hn
 have h1 := hk n hn
 have h2 : (2 : Int) ^ k = 2 ^ j * 2 ^ (k - j) := by rw [← Int.pow_add]; congr 1; omega
 have h3 : (2 : Int) ^ k ∣ n := Int.dvd_of_emod_eq_zero h1
 rw [h2] at h3
 exact Int.emod_eq_zero_of_dvd (Int.dvd_trans (Int.dvd_mul_right _ _) h3)
def wasK (l : List Int) : Nat → Nat
 | 0 => 0
 | k + 1 => if dvB l (k + 1) = true then k + 1 else wasK l k
def zerB (l : List Int) : Bool := l.all fun n => n == 0
def wasN (l : List Int) : Nat := if zerB l = true then 0 else wasK l 31
theorem wasK_le (l : List Int) (k : Nat) : wasK l k ≤ k := by
 induction k with
 | zero => exact Nat.le_refl _
 | succ k ih => unfold wasK; split <;> omega
theorem wasN_le (l : List Int) : wasN l ≤ 31 := by unfold wasN; split; omega; exact wasK_le l 31
theorem wasK_is (l : List Int) (n K : Nat) (hn : n ≤ K) (h1 : dvB l n = true) (h2 : n = K ∨ dvB l (n + 1) = false) : wasK l K = n := by
 induction K with
 | zero => unfold wasK; omega
 | succ K ih =>
  unfold wasK
  by_cases e : n = K + 1
  ·subst e; rw [if_pos h1]
  ·rcases h2 with h2 | h2
   ·omega
   ·have h3 : ¬ dvB l (K + 1) = true := fun h => by
     have := dvB_mono l (n + 1) (K + 1) (by omega) h
     rw [h2] at this; cases this
    rw [if_neg h3]
    exact ih (by omega) (Or.inr h2)
theorem dvB_zero (l : List Int) : dvB l 0 = true := by rw [dvB_iff]; intro n _; simp [Int.emod_one]
theorem wasK_dvB (l : List Int) (k : Nat) : dvB l (wasK l k) = true := by
 induction k with
 | zero => exact dvB_zero l
 | succ k ih => unfold wasK; split; assumption; exact ih
theorem wasN_dvB (l : List Int) : dvB l (wasN l) = true := by unfold wasN; split; exact dvB_zero l; exact wasK_dvB l 31
def shrL (l : List Int) (k : Nat) : List Int := l.map fun n => n / 2 ^ k
structure Sb where
 k : Int
 o : Int
 w : Int
 p : Int
 h : Int
 C : List Int
 R : Rc
abbrev bareOk (s : Sb) : Prop := s.p = 0 ∧ s.h = 0 ∧ s.C = []
abbrev plnOk (s : Sb) : Prop := s.o = 0 ∧ s.R = ⟨0, 0, [], []⟩
abbrev kdA (s : Sb) : Prop := (s.k = 0 ∨ s.k = 1) ∧ bareOk s ∧ plnOk s
abbrev kdF (s : Sb) (b : Int) : Prop := s.k = 2 ∧ bareOk s ∧ 0 ≤ s.o ∧ s.o ≤ 4 ∧ s.o ≤ b ∧ chkOk s.R b s.o
abbrev kdL (s : Sb) (b : Int) : Prop := s.k = 3 ∧ 1 ≤ s.o ∧ s.o ≤ 32 ∧ s.o ≤ b ∧ 1 ≤ s.p ∧ s.p ≤ 15 ∧ 0 ≤ s.h ∧ s.h ≤ 15 ∧ (s.C.length : Int) = s.o ∧ (∀ x ∈ s.C, sigE x s.p = 0) ∧ chkOk s.R b s.o
abbrev subOk (s : Sb) (b v : Int) : Prop := (1 ≤ b ∧ b ≤ 65535) ∧ (1 ≤ v ∧ v ≤ 33) ∧ (0 ≤ s.w ∧ s.w < v) ∧ (kdA s ∨ kdF s b ∨ kdL s b)
def resN (s : Sb) (m : List Int) : List Int := if s.k = 2 then leftN (wF s.o.toNat) 0 m (m.length - s.o.toNat) else leftN s.C s.h.toNat m (m.length - s.o.toNat)
abbrev goesOk (s : Sb) (v : Int) (l : List Int) : Prop := (∀ x ∈ l, sigE x v = 0) ∧ dvB l s.w.toNat = true ∧ (s.k = 0 → ∀ x ∈ l, x = l.getD 0 0) ∧ (s.k = 2 ∨ s.k = 3 → encR s.R l.length s.o (resN s (shrL l s.w.toNat)) = true)
def typN (s : Sb) : Int := if s.k = 0 then 0 else if s.k = 1 then 1 else if s.k = 2 then 8 + s.o else 31 + s.o
def wstB (w : Int) : List Nat := if 0 < w then putB 1 1 ++ unrB (w - 1) else putB 0 1
def bodyB (s : Sb) (v : Int) (m : List Int) : List Nat :=
 if s.k = 0 then sigB (m.getD 0 0) (v - s.w)
 else if s.k = 1 then numsB 0 (v - s.w) m
 else if s.k = 2 then numsB 0 (v - s.w) (m.take s.o.toNat) ++ encB s.R m.length s.o.toNat (resN s m)
 else numsB 0 (v - s.w) (m.take s.o.toNat) ++ (putB (s.p - 1) 4 ++ (putB s.h 5 ++ (numsB 0 s.p s.C ++ encB s.R m.length s.o.toNat (resN s m))))
def subB (s : Sb) (v : Int) (l : List Int) : List Nat := putB (typN s) 7 ++ (wstB s.w ++ bodyB s v (shrL l s.w.toNat))
theorem sigE_iff (x v : Int) : sigE x v = 0 ↔ 1 ≤ v ∧ v ≤ 64 ∧ -2 ^ (v.toNat - 1) ≤ x ∧ x < 2 ^ (v.toNat - 1) := by
 unfold sigE
 constructor
 ·intro h
  split at h
  ·assumption
  ·cases h
 ·intro h; rw [if_pos h]
theorem pow_int (k : Nat) : (2 : Int) ^ k = ((2 ^ k : Nat) : Int) := by simp
theorem fit_div (x : Int) (v w : Nat) (hw : w < v) (hf : sigE x v = 0) (hd : x % 2 ^ w = 0) : sigE (x / 2 ^ w) ((v - w : Nat) : Int) = 0 := by
 rw [sigE_iff] at hf ⊢
 obtain ⟨h1, h2, h3, h4⟩ := hf
 rw [Int.toNat_natCast] at h3 h4 ⊢
 have hp : (2 : Int) ^ (v - 1) = 2 ^ (v - w - 1) * 2 ^ w := by rw [← Int.pow_add]; congr 1; omega
 have hq : (0 : Int) < 2 ^ w := Int.pow_pos (by decide)
 have hx : x / 2 ^ w * 2 ^ w = x := Int.ediv_mul_cancel (Int.dvd_of_emod_eq_zero hd)
 rw [hp] at h3 h4
 refine ⟨by omega, by omega, ?_, ?_⟩
 ·rw [← hx, ← Int.neg_mul] at h3
  exact Int.le_of_mul_le_mul_right h3 hq
 ·rw [← hx] at h4
  exact Int.lt_of_mul_lt_mul_right h4 (Int.le_of_lt hq)
theorem shr_len (l : List Int) (k : Nat) : (shrL l k).length = l.length := List.length_map ..
theorem shr_fit (l : List Int) (v w : Nat) (hw : w < v) (h : ∀ x ∈ l, sigE x v = 0) (hd : dvB l w = true) : ∀ x ∈ shrL l w, sigE x ((v - w : Nat) : Int) = 0 := fun y hy => by
 obtain ⟨x, hm, rfl⟩ := List.mem_map.1 hy
 exact fit_div x v w hw (h x hm) ((dvB_iff l w).1 hd x hm)
abbrev R0 : Rc := ⟨0, 0, [], []⟩
end Go.Proofs.YthgpleelpeacjaaGreatDoor

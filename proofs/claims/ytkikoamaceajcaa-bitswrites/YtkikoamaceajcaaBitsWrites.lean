/-
  For every list of deeds the law BitsWrites answers true: each write of the program's writer gives the error that the document's gives, and behind them all both hold the same bits and the same bytes. No condition is laid on the list (the law itself looks at the first hundred deeds, and passes over unary codes of 4000 to 2^24 bits 0).
-/
import Derived.Test.YtkikoamaceajcaaBoth
import Derived.Test.YtkikoamaceajcaaDeedargs
import Derived.WalkKit
import Derived.ProofKit
import Derived.OpenShut
import Derived.ShutString
import Derived.ChangeOld
import Derived.Below
namespace Go.Proofs.Ytkikoamaceajcaa.bitsWrites
open Go.ChangeShapes Go.WideShapes Go.ChangeAt Go.RowKit
set_option linter.unusedSimpArgs false
set_option linter.unusedVariables false

theorem own : ownKnob Try.prog.godebug = none := by kernel_rfl
theorem laidOut : laidOutB Try.prog = true := by kernel_rfl

theorem bel_drewN {B : Nat} {w w' : World} (h : Below B w w') (n : Nat) : Below B w (w'.drewN n) := ⟨h.os, h.tape, h.output, h.size, h.block⟩

set_option maxRecDepth 20000 in
set_option maxHeartbeats 3200000 in
theorem walk (ao0 : Option Addr) (len cap b off : Nat) (hlen : len ≤ 9223372036854775807) (K W N U : Nat → Int) (w : World) (hd : Deeds w ao0 len b off K W N U) :
    Calls Try.prog 3 #[.slice ao0 len cap] w fun e w' => e = .returned (.bool true) ∧ Below w.heap.size w w' := by
  go_enter Try.func3, Try.ntmps3
  go_wp2_with fail
  refine (new_spec w).mono ?_
  rintro e w1 ⟨rfl, hW1, hw1⟩
  have hB1 : Below w.heap.size w w1 := by rw [hw1]; exact (Below.refl _ _).alloc (Nat.le_refl _) _
  have hz1 : w1.heap.size = w.heap.size + 1 := by rw [hw1]; simp
  clear hw1
  obtain ⟨p, hp⟩ : ∃ p, p = w.heap.size := ⟨_, rfl⟩
  rw [← hp] at hW1 ⊢
  obtain ⟨w2, hw2⟩ : ∃ w2, w2 = w1.alloc (.cells #[.slice none 0 0] 28) := ⟨_, rfl⟩
  obtain ⟨x, hx⟩ : ∃ x, x = w1.heap.size := ⟨_, rfl⟩
  have hB2 : Below w1.heap.size w1 w2 := by rw [hw2]; exact (Below.refl _ _).alloc (Nat.le_refl _) _
  have hX2 : XwB w2 x none [] := by
    refine ⟨0, ⟨?_, World.ownsRow_nil _ _ _ _, by simp [blockOf]⟩⟩
    rw [hw2, hx, heap_alloc_new]
    rfl
  have hP2 : Pair p w w2 p x none none [] [] :=
    ⟨hW1.below hB2, hX2, Nat.le_refl _, by omega, by omega, by simp [blockOf], by simp [blockOf], fun b hb => (by cases hb), fun b hb => (by cases hb), fun b hb => (by cases hb), by rw [hp]; exact hB1.trans (hB2.mono (by omega))⟩
  have HP : Hid _ := hp
  clear hB1 hB2 hX2 hW1 hp hz1
  go_wp2_with fail
  rw [← hx, ← hw2]
  clear hw2 hx
  go_loopw [5] (fun t wr => ∃ (i : Nat) (ao bo : Option Addr) (B : List Nat), i ≤ len ∧ i ≤ 100 ∧ t = .int .i64 (i : Int) ∧ Bits01 B ∧ B.length ≤ i * 17000000 ∧ Pair p w wr p x ao bo B B) (fun t _ => 100 - (intOf t).toNat)
  case atStart => exact ⟨0, none, none, [], by omega, by omega, rfl, Bits01.nil, by simp, hP2⟩
  case round =>
    obtain ⟨i, ao, bo, B, hi, hi100, rfl, h01, hlB, hP⟩ := hrel
    clear hP2
    by_cases hlt : (i : Int) < (len : Int)
    · by_cases h100 : (i : Int) < 100
      · obtain ⟨rfl, hbq0⟩ := hd.addr (by omega)
        have hbq : b < p := by have := HP.out; omega
        have d0 : wr.cell? ⟨b, off + i * 4, none⟩ = some (.int .i64 (K i)) := (hP.below.cell (p := ⟨b, off + i * 4, none⟩) hbq).trans (hd.ck i (by omega))
        have d1 : wr.cell? ⟨b, off + i * 4 + 1, none⟩ = some (.int .i64 (W i)) := (hP.below.cell (p := ⟨b, off + i * 4 + 1, none⟩) hbq).trans (hd.cw i (by omega))
        have d2 : wr.cell? ⟨b, off + i * 4 + 2, none⟩ = some (.int .i64 (N i)) := (hP.below.cell (p := ⟨b, off + i * 4 + 2, none⟩) hbq).trans (hd.cn i (by omega))
        have d3 : wr.cell? ⟨b, off + i * 4 + 3, none⟩ = some (.int .u64 (U i)) := (hP.below.cell (p := ⟨b, off + i * 4 + 3, none⟩) hbq).trans (hd.cu i (by omega))
        have bn := hd.nb i (by omega)
        have bu := hd.ub i (by omega)
        generalize K i = kk at d0
        generalize W i = ww at d1
        generalize N i = nn at d2 bn
        generalize U i = uu at d3 bu
        have HD : Hid _ := hd
        clear hd hbq0
        go_wp2_with fail
        refine (light_spec kk ww nn uu bn.1 bn.2 wr).mono ?_
        rintro e w3 ⟨rfl, hB3⟩
        have hP3 := hP.later hB3
        have a3 := fun (j : Nat) => hB3.cell (p := ⟨b, off + i * 4 + j, none⟩) (show b < wr.heap.size by have := hP.wr.lt; omega)
        have b0 : w3.cell? ⟨b, off + i * 4, none⟩ = some (.int .i64 kk) := (a3 0).trans d0
        have b1 : w3.cell? ⟨b, off + i * 4 + 1, none⟩ = some (.int .i64 ww) := (a3 1).trans d1
        have b2 : w3.cell? ⟨b, off + i * 4 + 2, none⟩ = some (.int .i64 nn) := (a3 2).trans d2
        have b3 : w3.cell? ⟨b, off + i * 4 + 3, none⟩ = some (.int .u64 uu) := (a3 3).trans d3
        clear a3 hB3 hP d0 d1 d2 d3
        by_cases hl : lightB kk ww nn = true
        · rw [hl]
          clear hl
          go_wp2_with fail
          refine (both_all kk ww nn uu bn.1 bn.2 bu.1 bu.2 p w w3 p x ao bo B h01 (by omega) hP3).mono ?_
          rintro e w4 ⟨rfl, ao4, bo4, hP4⟩
          have h014 : Bits01 (B ++ dB B kk ww nn uu) := h01.append (dB_01 _ _ _ _ _)
          have hl4 : (B ++ dB B kk ww nn uu).length ≤ (i + 1) * 17000000 := by have := dB_len B kk ww nn uu; rw [List.length_append]; omega
          generalize B ++ dB B kk ww nn uu = B4 at *
          obtain ⟨cap4, hX4⟩ := hP4.xw
          have x0 := hX4.c0
          have hne : (dE kk ww nn uu != dE kk ww nn uu) = false := by simp
          clear hP3 b0 b1 b2 b3
          go_wp2
          go_quiet ((go_at_call 11; exact Calls.quiet_of_same (len_spec p _ ao4 B4 (hP4.wr.drewN _))))
          go_wp2
          go_roundw
          case rel => exact ⟨i + 1, ao4, bo4, B4, by omega, by omega, by go_num, h014, hl4, hP4.later (bel_drewN (Below.refl _ _) _)⟩
          case measure => simp [intOf]; omega
        · have hl' : lightB kk ww nn = false := by simpa using hl
          rw [hl']
          have hl5 : B.length ≤ (i + 1) * 17000000 := Nat.le_trans hlB (Nat.mul_le_mul_right _ (Nat.le_succ i))
          clear hl hl' b0 b1 b2 b3
          go_wp2
          go_roundw
          case rel => exact ⟨i + 1, ao, bo, B, by omega, by omega, by go_num, h01, hl5, hP3⟩
          case measure => simp [intOf]; omega
      · have hd100 : decide ((i : Int) < 100) = false := by simpa using h100
        go_wp2_with fail
        obtain ⟨capx, hXx⟩ := hP.xw
        have x0 := hXx.c0
        have hNw : p < wr.heap.size := hP.wr.lt
        have x0d : wr.drew.cell? ⟨x, 0, none⟩ = some (.slice bo B.length capx) := x0
        go_region_held3 (fun w' => w'.cell? ⟨x, 0, none⟩ = some (.slice bo B.length capx)) (first | exact x0d | assumption)
          (first
            | (go_at_call 12; refine (bytes_spec p _ ao B h01 (by omega) (show WrB wr.drew p ao B from WrB.drewN hP.wr 1)).mono ?_; rintro e w5 ⟨rfl, rfl⟩)
            | (go_at_call 13; refine (xbytes_spec x _ bo B h01 (by omega) (show XwB wr.drew x bo B from ⟨capx, hXx.drewN 1⟩)).mono ?_; rintro e w6 ⟨rfl, hB6⟩; have y0 : w6.cell? ⟨x, 0, none⟩ = some (.slice bo B.length capx) := ((hB6.cell (p := ⟨x, 0, none⟩) hXx.lt).trans x0d); have hW6 : WrB w6 p ao B := WrB.below (WrB.drewN hP.wr 1) hB6)
            | (go_at_call 11; refine (len_spec p _ ao B (by assumption)).mono ?_; rintro e w7 ⟨rfl, rfl⟩)
            | (go_at_call 14; refine (awake_spec _).mono ?_; rintro e w8 ⟨rfl, hB8⟩; have hB68 : Below wr.heap.size wr w8 := (((Below.refl wr.heap.size wr).drew.trans hB6).trans (hB8.mono hB6.size)); have z0 : w8.cell? ⟨x, 0, none⟩ = some (.slice bo B.length capx) := ((hB68.cell (p := ⟨x, 0, none⟩) hXx.lt).trans x0)))
        go_wp2
        go_ret
        exact ⟨rfl, by rw [← HP.out]; exact hP.below.trans (Below.mono hB68 (by omega))⟩
    · skip
      go_wp2_with fail
      obtain ⟨capx, hXx⟩ := hP.xw
      have x0 := hXx.c0
      have hNw : p < wr.heap.size := hP.wr.lt
      have x0d : wr.drew.cell? ⟨x, 0, none⟩ = some (.slice bo B.length capx) := x0
      go_region_held3 (fun w' => w'.cell? ⟨x, 0, none⟩ = some (.slice bo B.length capx)) (first | exact x0d | assumption)
        (first
          | (go_at_call 12; refine (bytes_spec p _ ao B h01 (by omega) (show WrB wr.drew p ao B from WrB.drewN hP.wr 1)).mono ?_; rintro e w5 ⟨rfl, rfl⟩)
          | (go_at_call 13; refine (xbytes_spec x _ bo B h01 (by omega) (show XwB wr.drew x bo B from ⟨capx, hXx.drewN 1⟩)).mono ?_; rintro e w6 ⟨rfl, hB6⟩; have y0 : w6.cell? ⟨x, 0, none⟩ = some (.slice bo B.length capx) := ((hB6.cell (p := ⟨x, 0, none⟩) hXx.lt).trans x0d); have hW6 : WrB w6 p ao B := WrB.below (WrB.drewN hP.wr 1) hB6)
          | (go_at_call 11; refine (len_spec p _ ao B (by assumption)).mono ?_; rintro e w7 ⟨rfl, rfl⟩)
          | (go_at_call 14; refine (awake_spec _).mono ?_; rintro e w8 ⟨rfl, hB8⟩; have hB68 : Below wr.heap.size wr w8 := (((Below.refl wr.heap.size wr).drew.trans hB6).trans (hB8.mono hB6.size)); have z0 : w8.cell? ⟨x, 0, none⟩ = some (.slice bo B.length capx) := ((hB68.cell (p := ⟨x, 0, none⟩) hXx.lt).trans x0)))
      go_wp2
      go_ret
      exact ⟨rfl, by rw [← HP.out]; exact hP.below.trans (Below.mono hB68 (by omega))⟩

set_option maxRecDepth 100000 in
theorem lifted (os : Os) (started : os.Started) (H : Type) (enc : TypeId × Value → H) :
    ReturnsInHanded {} Try.checked os 3 .any (Rows.bitsWritesSpec.pre6 enc Try.prog Try.f3 Rows.bitsWritesRow.domain false) (Rows.bitsWritesSpec.post enc Try.prog Try.f3 false true false false) := by
  refine returnsInHanded_of_change (C := Try.checked) own started (by kernel_rfl) Try.func3
    (ChangeSpec.witness6 (enc := enc) (C := Try.checked) false ⟨#[], #[.slice none 0 0], []⟩ 8 (by kernel_rfl) (by kernel_rfl) (by kernel_rfl) (by kernel_rfl)) ?_
  intro W base args ds gs before hval0 hW hcnd _
  have hval : ∀ (j : Nat) t v, Try.f3.params[j]? = some t → args[j]? = some v → Value.okWide Try.prog W .any base t v := hval0
  have hW' := hW
  obtain ⟨p, q, hA0, hV, rfl, hfz, hnd⟩ := hW
  have hA : DataW.TrodAll enc Try.prog W 0 (fun _ => true) true Try.f3.params.toList args.toList ds p := hA0
  rw [Try.params3] at hA hval
  obtain ⟨v0, vs0, d0, ds0, p0, q0, hargs, rfl, rfl, h0, r0⟩ := trodAll_cons hA
  obtain ⟨rfl, rfl, rfl⟩ := trodAll_nil r0
  obtain rfl : args = #[v0] := by cases args; simp_all
  obtain ⟨rfl, rfl⟩ := trodVars_none hV
  obtain ⟨ao, len, cap, rfl⟩ := okWide_slice Try.underlying22 (hval 0 22 v0 rfl rfl)
  have k0 := h0
  have lt0 : ∀ x ∈ p0, x.block < W.heap.size := by obtain ⟨m, hm⟩ := k0; exact DataW.trod_lt m _ _ _ hm
  obtain ⟨hlen, b, off, K, Wd, N, U, hd⟩ := open_deeds h0
  clear hA0 hval0
  refine (walk ao len cap b off (by simpa [maxLen] using hlen) K Wd N U W hd).mono fun e W' ⟨he, bel⟩ => ?_
  subst he
  exact ⟨_, rfl, _, _, _, [], _, [], hW', trodAll_mk1 (shut_bool Try.underlying4 _), (trodAll_cons_mk (Below.trod laidOut (by kernel_rfl) (of_decide_eq_true (by kernel_rfl)) k0 bel lt0) trodAll_mk0), rfl, bel.frame _, fun h => by cases h⟩

theorem over : Rows.bitsWritesRow.holds Try.pinned (OpenSpec.ofChange Rows.bitsWritesSpec) :=
  OpenClaim.holds_of_wide 3 Try.f3 rfl rfl rfl rfl rfl rfl rfl ⟨rfl, rfl, rfl, rfl, rfl⟩ rfl rfl rfl rfl rfl (by kernel_rfl) Try.func3 (by kernel_rfl)
    (of_decide_eq_true (by kernel_rfl)) (by unfold Func.isWrapper; first | (rw [if_pos (by decide +kernel)]; kernel_rfl) | (rw [if_neg (by decide +kernel)]; exact ⟨rfl, rfl⟩))
    (fun os started H enc _ => lifted os started H enc)

end Go.Proofs.Ytkikoamaceajcaa.bitsWrites
namespace Go.Proofs.Ytkikoamaceajcaa
theorem bitsWrites_holds : Rows.BitsWritesSaid := bitsWrites.over
#print axioms bitsWrites_holds
end Go.Proofs.Ytkikoamaceajcaa

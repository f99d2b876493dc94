/-
  For every text and every list of deeds the law BitsReads answers true: each read of the program's reader gives the number, the error and the place that the document's reader gives, one behind the other. No condition is laid on the text or on the list (the law itself looks at the first hundred deeds).
-/
import Derived.Test.YtkikoamaceajcaaDeedargs
import Derived.SizedLaws
import Derived.WalkKit
import Derived.ProofKit
import Derived.OpenShut
import Derived.ShutString
import Derived.ChangeOld
import Derived.Below
namespace Go.Proofs.Ytkikoamaceajcaa.bitsReads
open Go.ChangeShapes Go.WideShapes Go.ChangeAt Go.RowKit
open Go.ChangeMaps (open_string shut_string)
set_option linter.unusedSimpArgs false
set_option linter.unusedVariables false

theorem own : ownKnob Try.prog.godebug = none := by kernel_rfl
theorem laidOut : laidOutB Try.prog = true := by kernel_rfl

theorem Rr.below {w w' : World} {x : Nat} {s : ByteArray} {a : Nat} (h : Rr w x s a) (hS : Below w.heap.size w w') : Rr w' x s a :=
  h.stays (Stays.of_below hS (fun _ => False)) (fun h => h)

theorem bel_drewN {B : Nat} {w w' : World} (h : Below B w w') (n : Nat) : Below B w (w'.drewN n) := ⟨h.os, h.tape, h.output, h.size, h.block⟩

set_option maxRecDepth 20000 in
set_option maxHeartbeats 3200000 in
theorem walk (s : ByteArray) (hs : s.size ≤ 1000000000000000000) (ao : Option Addr) (len cap b off : Nat) (hlen : len ≤ 9223372036854775807) (K W N U : Nat → Int) (w : World) (hd : Deeds w ao len b off K W N U) :
    Calls Try.prog 4 #[.string s, .slice ao len cap] w fun e w' => e = .returned (.bool true) ∧ Below w.heap.size w w' := by
  go_enter Try.func4, Try.ntmps4
  go_wp2_with fail
  refine (of_spec s hs w).mono ?_
  rintro e w1 ⟨rfl, hR1, hB1⟩
  obtain ⟨q, hq⟩ : ∃ q, q = w.heap.size := ⟨_, rfl⟩
  rw [← hq] at hR1 ⊢
  have hq1 : q < w1.heap.size := hR1.lt
  obtain ⟨w2, hw2⟩ : ∃ w2, w2 = w1.alloc (.cells #[.string s, .int .i64 0] 43) := ⟨_, rfl⟩
  have hB2' : Below w1.heap.size w1 w2 := by rw [hw2]; exact (Below.refl _ _).alloc (Nat.le_refl _) _
  have hR2 : Rd w2 q s 0 := hR1.below hB2'
  obtain ⟨x, hx⟩ : ∃ x, x = w1.heap.size := ⟨_, rfl⟩
  have hX2 : Rr w2 x s 0 := by rw [hw2, hx]; unfold Rr; rw [heap_alloc_new]; rfl
  have hB2 : Below q w w2 := by rw [hq]; exact hB1.trans (hB2'.mono (by omega))
  have hqx : q < x := by omega
  have HQ : Hid _ := hq
  clear hB1 hB2' hR1 hq
  go_wp2_with fail
  rw [← hx, ← hw2]
  clear hw2 hx hq1
  go_loopw [7] (fun t wr => ∃ i a : Nat, i ≤ len ∧ i ≤ 100 ∧ t = .int .i64 (i : Int) ∧ a ≤ 8 * s.size ∧ Rd wr q s a ∧ Rr wr x s a ∧ Below q w wr) (fun t _ => 100 - (intOf t).toNat)
  case atStart => exact ⟨0, 0, by omega, by omega, rfl, by omega, hR2, hX2, hB2⟩
  case round =>
    obtain ⟨i, a, hi, hi100, rfl, ha, hR, hX, hB⟩ := hrel
    clear hR2 hX2 hB2
    by_cases hlt : (i : Int) < (len : Int)
    · by_cases h100 : (i : Int) < 100
      · obtain ⟨rfl, hbq0⟩ := hd.addr (by omega)
        have hbq : b < q := by have := HQ.out; omega
        have d0 : wr.cell? ⟨b, off + i * 4, none⟩ = some (.int .i64 (K i)) := (hB.cell (p := ⟨b, off + i * 4, none⟩) hbq).trans (hd.ck i (by omega))
        have d1 : wr.cell? ⟨b, off + i * 4 + 1, none⟩ = some (.int .i64 (W i)) := (hB.cell (p := ⟨b, off + i * 4 + 1, none⟩) hbq).trans (hd.cw i (by omega))
        generalize K i = kk at d0
        generalize W i = ww at d1
        have HD : Hid _ := hd
        clear hd hbq0
        by_cases k0 : kk = 0
        · subst k0
          go_wp2_with fail
          refine (get_all s hs a ha wr q ww hR).mono ?_
          rintro e w3 ⟨rfl, hR3, hS3⟩
          have hX3 := hX.stays hS3 (fun e => by have : x = q := e; omega)
          have hB3 : Below q wr w3 := only_below hS3 (by have := hR.lt; omega) (Nat.le_refl _)
          have a3 := fun (j : Nat) => hB3.cell (p := ⟨b, off + i * 4 + j, none⟩) hbq
          have b0 : w3.cell? ⟨b, off + i * 4, none⟩ = some (.int .i64 0) := (a3 0).trans d0
          have b1 : w3.cell? ⟨b, off + i * 4 + 1, none⟩ = some (.int .i64 ww) := (a3 1).trans d1
          clear a3
          go_wp2_with fail
          refine (refget_all s hs a ha w3 x ww hX3).mono ?_
          rintro e w4 ⟨rfl, hX4, hS4⟩
          have hR4 := hR3.stays hS4 (fun e => by have : q = x := e; omega)
          have hB4 : Below q w3 w4 := only_below hS4 (by have := hR3.lt; omega) (by omega)
          have hle := getA_le s a ww ha
          generalize getA s a ww = a4 at *
          have HB : Hid (Below q w w4) := (hB.trans hB3).trans hB4
          have x1 := hX4.c1
          clear hB hB3 hB4 hS3 hS4 hR3 hX3 hR hX ha d0 d1 b0 b1
          go_wp2
          go_quiet (first | (go_at_call 26; exact Calls.quiet_of_same (at_spec q s a4 _ (hR4.drewN _))) | (go_at_call 27; exact Calls.quiet_of (left_spec q s hs a4 hle _ (hR4.drewN _))) | (go_at_call 28; exact Calls.quiet_of (refleft_spec x s hs a4 hle _ (hX4.drewN _))))
          go_wp2
          go_roundw
          case rel => exact ⟨i + 1, a4, by omega, by omega, by go_num, hle, hR4, hX4, bel_drewN HB.out _⟩
          case measure => simp [intOf]; omega
        · have k0' : (kk == 0) = false := by simpa using k0
          clear k0
          by_cases k1 : kk = 1
          · subst k1
            by_cases hw64 : ww ≤ 64
            · skip
              go_wp2_with fail
              refine (signed_all s hs a ha wr q ww hR).mono ?_
              rintro e w3 ⟨rfl, hR3, hS3⟩
              have hX3 := hX.stays hS3 (fun e => by have : x = q := e; omega)
              have hB3 : Below q wr w3 := only_below hS3 (by have := hR.lt; omega) (Nat.le_refl _)
              have a3 := fun (j : Nat) => hB3.cell (p := ⟨b, off + i * 4 + j, none⟩) hbq
              have b0 : w3.cell? ⟨b, off + i * 4, none⟩ = some (.int .i64 1) := (a3 0).trans d0
              have b1 : w3.cell? ⟨b, off + i * 4 + 1, none⟩ = some (.int .i64 ww) := (a3 1).trans d1
              clear a3
              go_wp2_with fail
              refine (refsigned_all s hs a ha w3 x ww hw64 hX3).mono ?_
              rintro e w4 ⟨rfl, hX4, hS4⟩
              have hR4 := hR3.stays hS4 (fun e => by have : q = x := e; omega)
              have hB4 : Below q w3 w4 := only_below hS4 (by have := hR3.lt; omega) (by omega)
              have hle := sgnA_le s a ww ha
              generalize sgnA s a ww = a4 at *
              have HB : Hid (Below q w w4) := (hB.trans hB3).trans hB4
              have x1 := hX4.c1
              clear hB hB3 hB4 hS3 hS4 hR3 hX3 hR hX ha d0 d1 b0 b1
              go_wp2
              go_quiet (first | (go_at_call 26; exact Calls.quiet_of_same (at_spec q s a4 _ (hR4.drewN _))) | (go_at_call 27; exact Calls.quiet_of (left_spec q s hs a4 hle _ (hR4.drewN _))) | (go_at_call 28; exact Calls.quiet_of (refleft_spec x s hs a4 hle _ (hX4.drewN _))))
              go_wp2
              go_roundw
              case rel => exact ⟨i + 1, a4, by omega, by omega, by go_num, hle, hR4, hX4, bel_drewN HB.out _⟩
              case measure => simp [intOf]; omega
            · have hE : sgnE s a ww = 11 := by unfold sgnE; rw [if_pos (.inr (by omega))]
              have hV : sgnV s a ww = 0 := by unfold sgnV; rw [hE]; rfl
              have hA : sgnA s a ww = a := by unfold sgnA; rw [hE]; rfl
              go_wp2_with fail
              refine (signed_all s hs a ha wr q ww hR).mono ?_
              rw [hE, hV, hA]
              rintro e w4 ⟨rfl, hR4, hS3⟩
              clear hE hV hA
              have hX4 := hX.stays hS3 (fun e => by have : x = q := e; omega)
              have hB3 : Below q wr w4 := only_below hS3 (by have := hR.lt; omega) (Nat.le_refl _)
              have a3 := fun (j : Nat) => hB3.cell (p := ⟨b, off + i * 4 + j, none⟩) hbq
              have b0 : w4.cell? ⟨b, off + i * 4, none⟩ = some (.int .i64 1) := (a3 0).trans d0
              have b1 : w4.cell? ⟨b, off + i * 4 + 1, none⟩ = some (.int .i64 ww) := (a3 1).trans d1
              clear a3
              have HB : Hid (Below q w w4) := hB.trans hB3
              have x1 := hX4.c1
              clear hB hB3 hS3 hR hX d0 d1
              go_wp2
              go_quiet (first | (go_at_call 26; exact Calls.quiet_of_same (at_spec q s a _ (hR4.drewN _))) | (go_at_call 27; exact Calls.quiet_of (left_spec q s hs a ha _ (hR4.drewN _))) | (go_at_call 28; exact Calls.quiet_of (refleft_spec x s hs a ha _ (hX4.drewN _))))
              go_wp2
              go_roundw
              case rel => exact ⟨i + 1, a, by omega, by omega, by go_num, ha, hR4, hX4, bel_drewN HB.out _⟩
              case measure => simp [intOf]; omega
          · have k1' : (kk == 1) = false := by simpa using k1
            clear k1
            by_cases k2 : kk = 2
            · subst k2
              go_wp2_with fail
              refine (unary_all s hs a ha wr q hR).mono ?_
              rintro e w3 ⟨rfl, hR3, hS3⟩
              have hX3 := hX.stays hS3 (fun e => by have : x = q := e; omega)
              have hB3 : Below q wr w3 := only_below hS3 (by have := hR.lt; omega) (Nat.le_refl _)
              have a3 := fun (j : Nat) => hB3.cell (p := ⟨b, off + i * 4 + j, none⟩) hbq
              have b0 : w3.cell? ⟨b, off + i * 4, none⟩ = some (.int .i64 2) := (a3 0).trans d0
              have b1 : w3.cell? ⟨b, off + i * 4 + 1, none⟩ = some (.int .i64 ww) := (a3 1).trans d1
              clear a3
              go_wp2_with fail
              refine (refunary_all s hs a ha w3 x hX3).mono ?_
              rintro e w4 ⟨rfl, hX4, hS4⟩
              have hR4 := hR3.stays hS4 (fun e => by have : q = x := e; omega)
              have hB4 : Below q w3 w4 := only_below hS4 (by have := hR3.lt; omega) (by omega)
              have hle := unaA_le s a ha
              generalize unaA s a = a4 at *
              have HB : Hid (Below q w w4) := (hB.trans hB3).trans hB4
              have x1 := hX4.c1
              clear hB hB3 hB4 hS3 hS4 hR3 hX3 hR hX ha d0 d1 b0 b1
              go_wp2
              go_quiet (first | (go_at_call 26; exact Calls.quiet_of_same (at_spec q s a4 _ (hR4.drewN _))) | (go_at_call 27; exact Calls.quiet_of (left_spec q s hs a4 hle _ (hR4.drewN _))) | (go_at_call 28; exact Calls.quiet_of (refleft_spec x s hs a4 hle _ (hX4.drewN _))))
              go_wp2
              go_roundw
              case rel => exact ⟨i + 1, a4, by omega, by omega, by go_num, hle, hR4, hX4, bel_drewN HB.out _⟩
              case measure => simp [intOf]; omega
            · have k2' : (kk == 2) = false := by simpa using k2
              clear k2
              by_cases k3 : kk = 3
              · subst k3
                go_wp2_with fail
                refine (rice_all s hs a ha wr q ww hR).mono ?_
                rintro e w3 ⟨rfl, hR3, hS3⟩
                have hX3 := hX.stays hS3 (fun e => by have : x = q := e; omega)
                have hB3 : Below q wr w3 := only_below hS3 (by have := hR.lt; omega) (Nat.le_refl _)
                have a3 := fun (j : Nat) => hB3.cell (p := ⟨b, off + i * 4 + j, none⟩) hbq
                have b0 : w3.cell? ⟨b, off + i * 4, none⟩ = some (.int .i64 3) := (a3 0).trans d0
                have b1 : w3.cell? ⟨b, off + i * 4 + 1, none⟩ = some (.int .i64 ww) := (a3 1).trans d1
                clear a3
                go_wp2_with fail
                refine (refrice_all s hs a ha w3 x ww hX3).mono ?_
                rintro e w4 ⟨rfl, hX4, hS4⟩
                have hR4 := hR3.stays hS4 (fun e => by have : q = x := e; omega)
                have hB4 : Below q w3 w4 := only_below hS4 (by have := hR3.lt; omega) (by omega)
                have hle := ricA_le s a ww ha
                generalize ricA s a ww = a4 at *
                have HB : Hid (Below q w w4) := (hB.trans hB3).trans hB4
                have x1 := hX4.c1
                clear hB hB3 hB4 hS3 hS4 hR3 hX3 hR hX ha d0 d1 b0 b1
                go_wp2
                go_quiet (first | (go_at_call 26; exact Calls.quiet_of_same (at_spec q s a4 _ (hR4.drewN _))) | (go_at_call 27; exact Calls.quiet_of (left_spec q s hs a4 hle _ (hR4.drewN _))) | (go_at_call 28; exact Calls.quiet_of (refleft_spec x s hs a4 hle _ (hX4.drewN _))))
                go_wp2
                go_roundw
                case rel => exact ⟨i + 1, a4, by omega, by omega, by go_num, hle, hR4, hX4, bel_drewN HB.out _⟩
                case measure => simp [intOf]; omega
              · have k3' : (kk == 3) = false := by simpa using k3
                clear k3
                go_wp2_with fail
                refine (ralign_spec q s hs a ha wr hR).mono ?_
                rintro e w3 ⟨rfl, hR3, hS3⟩
                have hX3 := hX.stays hS3 (fun e => by have : x = q := e; omega)
                have hB3 : Below q wr w3 := only_below hS3 (by have := hR.lt; omega) (Nat.le_refl _)
                have a3 := fun (j : Nat) => hB3.cell (p := ⟨b, off + i * 4 + j, none⟩) hbq
                have b0 : w3.cell? ⟨b, off + i * 4, none⟩ = some (.int .i64 kk) := (a3 0).trans d0
                have b1 : w3.cell? ⟨b, off + i * 4 + 1, none⟩ = some (.int .i64 ww) := (a3 1).trans d1
                clear a3
                go_wp2_with fail
                refine (refalign_spec x s hs a ha w3 hX3).mono ?_
                rintro e w4 ⟨rfl, hX4, hS4⟩
                have hR4 := hR3.stays hS4 (fun e => by have : q = x := e; omega)
                have hB4 : Below q w3 w4 := only_below hS4 (by have := hR3.lt; omega) (by omega)
                have hle := padA_le s a ha
                generalize a + padOf a = a4 at *
                have HB : Hid (Below q w w4) := (hB.trans hB3).trans hB4
                have x1 := hX4.c1
                clear hB hB3 hB4 hS3 hS4 hR3 hX3 hR hX ha d0 d1 b0 b1
                go_wp2
                go_quiet (first | (go_at_call 26; exact Calls.quiet_of_same (at_spec q s a4 _ (hR4.drewN _))) | (go_at_call 27; exact Calls.quiet_of (left_spec q s hs a4 hle _ (hR4.drewN _))) | (go_at_call 28; exact Calls.quiet_of (refleft_spec x s hs a4 hle _ (hX4.drewN _))))
                go_wp2
                go_roundw
                case rel => exact ⟨i + 1, a4, by omega, by omega, by go_num, hle, hR4, hX4, bel_drewN HB.out _⟩
                case measure => simp [intOf]; omega
      · have hd100 : decide ((i : Int) < 100) = false := by simpa using h100
        go_wp2_with fail
        refine (awake_spec wr).mono ?_
        rintro e w5 ⟨rfl, hB5⟩
        go_wp2
        go_ret
        exact ⟨rfl, by rw [← HQ.out]; exact hB.trans (hB5.mono (by have := hR.lt; omega))⟩
    · go_wp2_with fail
      refine (awake_spec wr).mono ?_
      rintro e w5 ⟨rfl, hB5⟩
      go_wp2
      go_ret
      exact ⟨rfl, by rw [← HQ.out]; exact hB.trans (hB5.mono (by have := hR.lt; omega))⟩

set_option maxRecDepth 100000 in
theorem lifted (os : Os) (started : os.Started) (H : Type) (enc : TypeId × Value → H) :
    ReturnsInHanded {} Try.checked os 4 .any (Rows.bitsReadsSpec.pre6 enc Try.prog Try.f4 Rows.bitsReadsRow.domain false) (Rows.bitsReadsSpec.post enc Try.prog Try.f4 false true false false) := by
  refine returnsInHanded_of_change_sized (C := Try.checked) own started (by kernel_rfl) Try.func4
    (ChangeSpec.witness6 (enc := enc) (C := Try.checked) false ⟨#[], #[.string ByteArray.empty, .slice none 0 0], []⟩ 8 (by kernel_rfl) (by kernel_rfl) (by kernel_rfl) (by kernel_rfl)) ?_
  intro W base args ds gs before hval0 hW hcnd0 hsz0 hholds
  have hval : ∀ (j : Nat) t v, Try.f4.params[j]? = some t → args[j]? = some v → Value.okWide Try.prog W .any base t v := hval0
  have hsz : (DataW.weightsEach Try.prog (Try.f4.params.toList ++ Rows.bitsReadsSpec.plain.varTypes Try.prog) (ds ++ gs)).all (· ≤ reachBytes) = true := hsz0
  have hW' := hW
  obtain ⟨p, q, hA0, hV, rfl, hfz, hnd⟩ := hW
  have hA : DataW.TrodAll enc Try.prog W 0 (fun _ => true) true Try.f4.params.toList args.toList ds p := hA0
  rw [Try.params4] at hA hval hsz
  obtain ⟨v0, vs0, d0, ds0, p0, q0, hargs, rfl, rfl, h0, r0⟩ := trodAll_cons hA
  obtain ⟨v1, vs1, d1, ds1, p1, q1, rfl, rfl, rfl, h1, r1⟩ := trodAll_cons r0
  obtain ⟨rfl, rfl, rfl⟩ := trodAll_nil r1
  obtain rfl : args = #[v0, v1] := by cases args; simp_all
  obtain ⟨rfl, rfl⟩ := trodVars_none hV
  obtain ⟨s, rfl, rfl, rfl, hs⟩ := open_string Try.underlying9 (hval 0 9 v0 rfl rfl) h0
  have hs1 := sized_string hsz (j := 0) (t := 9) rfl rfl
  have hs2 : s.size ≤ 1000000000000000000 := by
    have e : s.data.toList.length = s.size := by rw [Array.length_toList]; rfl
    rw [e] at hs1
    simp only [reachBytes] at hs1
    omega
  obtain ⟨ao, len, cap, rfl⟩ := okWide_slice Try.underlying22 (hval 1 22 v1 rfl rfl)
  have k1 := h1
  have lt1 : ∀ x ∈ p1, x.block < W.heap.size := by obtain ⟨m, hm⟩ := k1; exact DataW.trod_lt m _ _ _ hm
  obtain ⟨hlen, b, off, K, Wd, N, U, hd⟩ := open_deeds h1
  clear hA0 hval0
  refine (walk s hs2 ao len cap b off (by simpa [maxLen] using hlen) K Wd N U W hd).mono fun e W' ⟨he, bel⟩ => ?_
  subst he
  exact ⟨_, rfl, _, _, _, [], _, [], hW', trodAll_mk1 (shut_bool Try.underlying4 _), (trodAll_cons_mk (shut_string Try.underlying9 hs) (trodAll_cons_mk (Below.trod laidOut (by kernel_rfl) (of_decide_eq_true (by kernel_rfl)) k1 bel lt1) trodAll_mk0)), rfl, bel.frame _, fun h => by cases h⟩

theorem over : Rows.bitsReadsRow.holds Try.pinned (OpenSpec.ofChange Rows.bitsReadsSpec) :=
  OpenClaim.holds_of_wide 4 Try.f4 rfl rfl rfl rfl rfl rfl rfl ⟨rfl, rfl, rfl, rfl, rfl⟩ rfl rfl rfl rfl rfl (by kernel_rfl) Try.func4 (by kernel_rfl)
    (of_decide_eq_true (by kernel_rfl)) (by unfold Func.isWrapper; first | (rw [if_pos (by decide +kernel)]; kernel_rfl) | (rw [if_neg (by decide +kernel)]; exact ⟨rfl, rfl⟩))
    (fun os started H enc _ => lifted os started H enc)

end Go.Proofs.Ytkikoamaceajcaa.bitsReads
namespace Go.Proofs.Ytkikoamaceajcaa
theorem bitsReads_holds : Rows.BitsReadsSaid := bitsReads.over
#print axioms bitsReads_holds
end Go.Proofs.Ytkikoamaceajcaa

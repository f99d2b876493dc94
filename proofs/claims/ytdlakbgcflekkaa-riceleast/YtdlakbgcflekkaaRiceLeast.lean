/-
  RiceLeast: what Best hands out is good and takes as many bits as it says, and no recipe of method 0, of order 4 at most, that escapes nothing takes fewer; whatever the recipe, the block and the residuals. No condition.
-/
import Derived.Test.YtdlakbgcflekkaaP8sum
import Derived.Test.YtdlakbgcflekkaaP8args
import Derived.WalkKit
import Derived.ProofKit
import Derived.OpenShut
import Derived.ShutString
import Derived.ChangeOld
import Derived.Below
import Derived.SizedLaws

namespace Go.Proofs.Ytdlakbgcflekkaa.riceLeast
open Go.ChangeShapes Go.WideShapes Go.ChangeAt Go.RowKit
open Go.ChangeMaps (open_string shut_string)
set_option linter.unusedSimpArgs false
set_option linter.unusedVariables false

theorem own : ownKnob Try.prog.godebug = none := by kernel_rfl
theorem laidOut : laidOutB Try.prog = true := by kernel_rfl

set_option maxRecDepth 20000 in
set_option maxHeartbeats 3200000 in
theorem walk (r : Rc) (rpa : Option Addr) (rpc : Nat) (rea : Option Addr) (rec : Nat) (na nb : Int) (na1 : -9223372036854775808 ≤ na) (na2 : na ≤ 9223372036854775807) (nb1 : -9223372036854775808 ≤ nb) (nb2 : nb ≤ 9223372036854775807) (l : List Int) (lo : Option Addr) (lc : Nat) (hlc : l.length ≤ lc) (hl0 : lo = none → lc = 0) (w : World) (rr : RcAt w r rpa rea) (rl : IntsAt w lo l) :
    Calls Try.prog 7 #[riceV r rpa rpc rea rec, .agg #[.int .i64 na, .int .i64 nb], .slice lo l.length lc] w fun e w' => e = .returned (.bool true) ∧ Below w.heap.size w w' := by

  have KSh : Hid (∀ wx, Below w.heap.size w wx → Calls Try.prog 8 #[.slice lo l.length lc] wx fun e w' => e = .returned (.bool (shB l)) ∧ w' = wx) := fun wx hb => short_spec l lo lc wx (rl.below hb)
  have KAw : Hid (∀ wx, Calls Try.prog 9 #[] wx fun e w' => e = .returned (.bool true) ∧ Below wx.heap.size wx w') := fun wx => awake_spec wx
  have HBX : Hid (((w.alloc (.cells (riceC r rpa rpc rea rec) 24)).alloc (.cells #[.int .i64 na, .int .i64 nb] 25)).heap[w.heap.size]? = some (.cells (riceC r rpa rpc rea rec) 24 (0, 0))) := heap_two _ _ _
  have HTW : Hid (((w.alloc (.cells (riceC r rpa rpc rea rec) 24)).alloc (.cells #[.int .i64 na, .int .i64 nb] 25)).heap[w.heap.size + 1]? = some (.cells #[.int .i64 na, .int .i64 nb] 25 (0, 0))) := by
    have hh := heap_alloc_new (w.alloc (.cells (riceC r rpa rpc rea rec) 24)) (.cells #[.int .i64 na, .int .i64 nb] 25)
    rw [show (w.alloc (.cells (riceC r rpa rpc rea rec) 24)).heap.size = w.heap.size + 1 from by simp] at hh
    exact hh
  have HBL : Hid (Below w.heap.size w ((w.alloc (.cells (riceC r rpa rpc rea rec) 24)).alloc (.cells #[.int .i64 na, .int .i64 nb] 25))) := ((Below.refl _ _).alloc (Nat.le_refl _) _).alloc (by simp) _
  have HRc : Hid (RcAt w r rpa rea) := rr
  have HLi : Hid (IntsAt w lo l) := rl
  clear rr rl
  by_cases hsh : ShX l
  case neg =>
    rw [shB_no hsh] at KSh
    clear hsh
    go_enter Try.func7, Try.ntmps7
    go_wp2_with fail
    generalize hwa : World.alloc (World.alloc _ _) _ = wa at *
    clear hwa
    refine (KSh.out wa HBL.out).mono ?_
    rintro e wa' ⟨rfl, rfl⟩
    go_wp2_with fail
    refine (KAw.out wa').mono ?_
    rintro e w2 ⟨rfl, hb2⟩
    have HB2 : Hid (Below w.heap.size w w2) := HBL.out.trans (hb2.mono HBL.out.size)
    clear hb2
    go_wp2_with fail
    go_ret
    exact ⟨rfl, HB2.out⟩
  case pos =>
    rw [shB_yes hsh] at KSh
    have HSX : Hid (ShX l) := hsh
    have h5 := hsh.2
    clear hsh
    go_enter Try.func7, Try.ntmps7
    go_wp2_with fail
    generalize hwa : World.alloc (World.alloc _ _) _ = wa at *
    clear hwa
    refine (KSh.out wa HBL.out).mono ?_
    rintro e wa' ⟨rfl, rfl⟩
    have hza : w.heap.size + 1 < wa'.heap.size := lt_of_block HTW.out

    have t0 : wa'.cell? ⟨w.heap.size + 1, 0, none⟩ = some (.int .i64 na) := by rw [cell_of_row _ _ _ _ _ _ HTW.out]; rfl
    have t1 : wa'.cell? ⟨w.heap.size + 1, 1, none⟩ = some (.int .i64 nb) := by rw [cell_of_row _ _ _ _ _ _ HTW.out]; rfl
    clear KSh
    rcases best_ways na nb l HSX.out lo lc hlc hl0 wa' (HLi.out.below HBL.out) with hno | hyes
    · have HBE : Hid _ := hno
      clear hno

      have kb : Calls Try.prog 26 #[.int .i64 na, .int .i64 nb, .slice lo l.length lc] wa' fun en w' => en = .returned (.tuple #[.agg #[.int .i64 0, .int .i64 0, .slice none 0 0, .slice none 0 0], .int .i64 (-1)]) ∧ Below wa'.heap.size wa' w' := HBE.out
      clear HBE
      go_wp2_with fail
      refine kb.mono ?_
      rintro e w2 ⟨rfl, hb2⟩
      have HB3 : Hid (Below w.heap.size w (w2.alloc (.cells #[.int .i64 0, .int .i64 0, .slice none 0 0, .slice none 0 0] 24))) := (HBL.out.trans (hb2.mono HBL.out.size)).alloc (by have := HBL.out.size; have := hb2.size; omega) _
      have HX3 : Hid ((w2.alloc (.cells #[.int .i64 0, .int .i64 0, .slice none 0 0, .slice none 0 0] 24)).heap[w2.heap.size]? = some (.cells #[.int .i64 0, .int .i64 0, .slice none 0 0, .slice none 0 0] 24 (0, 0))) := heap_alloc_new _ _
      clear hb2 kb t0 t1
      go_wp2_with fail
      generalize hw3 : World.alloc _ _ = w3 at *
      generalize hk3 : w2.heap.size = k3 at *
      clear hw3 hk3
      refine (new_spec w3).mono ?_
      rintro e w4 ⟨rfl, _, hq4⟩
      have HB4 : Hid (Below w3.heap.size w3 w4) := by show Below _ _ _; rw [hq4]; exact (Below.refl _ _).alloc (Nat.le_refl _) _
      clear hq4
      go_wp2_with fail
      refine (new_spec w4).mono ?_
      rintro e w5 ⟨rfl, _, hq5⟩
      have HB5 : Hid (Below w3.heap.size w3 w5) := HB4.out.trans (by rw [hq5]; exact (Below.refl _ _).alloc HB4.out.size _)
      clear hq5
      have hX5 : w5.heap[k3]? = some (.cells #[.int .i64 0, .int .i64 0, .slice none 0 0, .slice none 0 0] 24 (0, 0)) := by rw [HB5.out.block _ (lt_of_block HX3.out)]; exact HX3.out
      have z2 : w5.cell? ⟨k3, 2, none⟩ = some (.slice none 0 0) := by rw [cell_of_row _ _ _ _ _ _ hX5]; rfl
      clear hX5
      go_wp2_with fail
      refine (KAw.out w5).mono ?_
      rintro e w6 ⟨rfl, hb6⟩
      have HB6 : Hid (Below w.heap.size w w6) := (HB3.out.trans (HB5.out.mono HB3.out.size)).trans (hb6.mono (by have := HB3.out.size; have := HB5.out.size; omega))
      clear hb6
      go_wp2_with fail
      go_ret
      exact ⟨rfl, HB6.out⟩

    · skip

      obtain ⟨b, o, r', rfl, rfl, hC, ho4, hall, hn⟩ := hyes
      have hkl := bestK_le (ordS l b r') o
      have hCK : Cut b (bestK (ordS l b r') o) r' := hC.to _ hkl
      have kb := best_main b o r' hC ho4 hall l HSX.out lo lc hlc hl0 wa' (HLi.out.below HBL.out) hn
      have HLG : Hid (encR r (b : Int) (r' : Int) l = true → plT r r.E.length = true → ordS l b r' (bestK (ordS l b r') o) ≤ (encL r (b : Int) (r' : Int) l).length) := fun h1 h2 => plain_long hC ho4 hall r l HSX.out h1 h2
      have HEL : Hid ((encL (bestRc l b r' (bestK (ordS l b r') o)) (b : Int) (r' : Int) l).length = ordS l b r' (bestK (ordS l b r') o)) := best_encL hCK l HSX.out hn (by omega)
      have HEN : Hid (encN (bestRc l b r' (bestK (ordS l b r') o)) (b : Int) (r' : Int) l = 0) := by show _ = _; unfold encN; rw [best_encR hCK l HSX.out hn]; rfl
      have hRk := best_rok hCK l
      have hp16 : 2 ^ bestK (ordS l b r') o ≤ 16 := Nat.pow_le_pow_right (by decide) (show bestK (ordS l b r') o ≤ 4 by omega)
      have HNP : Hid ((∀ n ∈ (bestRc l b r' (bestK (ordS l b r') o)).P, -9223372036854775808 ≤ n ∧ n ≤ 9223372036854775807) ∧ (∀ n ∈ (bestRc l b r' (bestK (ordS l b r') o)).E, -9223372036854775808 ≤ n ∧ n ≤ 9223372036854775807)) := by
        refine ⟨fun n hn => ?_, fun n hn => ?_⟩
        · obtain ⟨i, hi, rfl⟩ := List.mem_map.1 (show n ∈ chP _ _ from hn)
          have := bestK_le (ordF l b r' (bestK (ordS l b r') o) i) 14
          omega
        · have := List.eq_of_mem_replicate (show n ∈ chE _ from hn)
          omega
      have HLP : Hid ((bestRc l b r' (bestK (ordS l b r') o)).P.length = 2 ^ bestK (ordS l b r') o) := hRk.lP
      have HLE : Hid ((bestRc l b r' (bestK (ordS l b r') o)).E.length = 2 ^ bestK (ordS l b r') o) := hRk.lE
      have hcm1 : -9223372036854775808 ≤ (bestRc l b r' (bestK (ordS l b r') o)).m := by have := hRk.m0; omega
      have hcm2 : (bestRc l b r' (bestK (ordS l b r') o)).m ≤ 9223372036854775807 := by have := hRk.m1; omega
      have hco1 : -9223372036854775808 ≤ (bestRc l b r' (bestK (ordS l b r') o)).o := by have := hRk.ho; omega
      have hco2 : (bestRc l b r' (bestK (ordS l b r') o)).o ≤ 9223372036854775807 := by have := hRk.ho; omega
      clear hRk hCK hC hall hkl ho4 hn
      generalize hQ : ordS l b r' (bestK (ordS l b r') o) = Q at *
      generalize hcc : bestRc l b r' (bestK (ordS l b r') o) = c at *
      generalize hcp : 2 ^ bestK (ordS l b r') o = cp at *
      clear hQ hcc hcp
      have hb1 : (b : Int) ≤ 9223372036854775807 := na2
      generalize hni : (b : Int) = ni at *
      generalize hmi : (r' : Int) = mi at *
      clear hni hmi
      go_wp2_with fail
      refine kb.mono ?_
      rintro e w2 ⟨gp, ge, rfl, hip, hie, hgp, hge, hb2⟩
      have HA3 : Hid (Below w2.heap.size w2 (w2.alloc (.cells (riceC c (some ⟨gp, 0, none⟩) cp (some ⟨ge, 0, none⟩) cp) 24))) := (Below.refl _ _).alloc (Nat.le_refl _) _
      have HB3 : Hid (Below wa'.heap.size wa' (w2.alloc (.cells (riceC c (some ⟨gp, 0, none⟩) cp (some ⟨ge, 0, none⟩) cp) 24))) := hb2.trans (HA3.out.mono hb2.size)
      have HX3 : Hid ((w2.alloc (.cells (riceC c (some ⟨gp, 0, none⟩) cp (some ⟨ge, 0, none⟩) cp) 24)).heap[w2.heap.size]? = some (.cells (riceC c (some ⟨gp, 0, none⟩) cp (some ⟨ge, 0, none⟩) cp) 24 (0, 0))) := heap_alloc_new _ _
      have HIP : Hid (IntsBlk (w2.alloc (.cells (riceC c (some ⟨gp, 0, none⟩) cp (some ⟨ge, 0, none⟩) cp) 24)) gp c.P) := hip.below HA3.out
      have HIE : Hid (IntsBlk (w2.alloc (.cells (riceC c (some ⟨gp, 0, none⟩) cp (some ⟨ge, 0, none⟩) cp) 24)) ge c.E) := hie.below HA3.out
      have hgp2 := hip.lt
      have hge2 := hie.lt
      clear hb2 kb t0 t1 hip hie
      go_wp2_with fail
      generalize hw3 : World.alloc _ _ = w3 at *
      generalize hk3 : w2.heap.size = k3 at *
      clear hw3 hk3 HA3
      have hk3 := lt_of_block HX3.out
      refine (new_spec w3).mono ?_
      rintro e w4 ⟨rfl, hw4, hq4⟩
      have HB4 : Hid (Below w3.heap.size w3 w4) := by show Below _ _ _; rw [hq4]; exact (Below.refl _ _).alloc (Nat.le_refl _) _
      have hz4 : w4.heap.size = w3.heap.size + 1 := by rw [hq4]; simp
      have HW4 : Hid (WrB w4 w3.heap.size none []) := hw4
      clear hq4 hw4
      go_wp2_with fail
      refine (new_spec w4).mono ?_
      rintro e w5 ⟨rfl, hw5, hq5⟩
      have HB5' : Hid (Below w4.heap.size w4 w5) := by show Below _ _ _; rw [hq5]; exact (Below.refl _ _).alloc (Nat.le_refl _) _
      have HW5 : Hid (WrB w5 w4.heap.size none []) := hw5
      have HV5 : Hid (WrB w5 w3.heap.size none []) := HW4.out.below HB5'.out
      have hb35 : Below w3.heap.size w3 w5 := HB4.out.trans (HB5'.out.mono HB4.out.size)
      have HB5 : Hid (Below wa'.heap.size wa' w5) := HB3.out.trans (hb35.mono HB3.out.size)
      have hX5 : w5.heap[k3]? = some (.cells (riceC c (some ⟨gp, 0, none⟩) cp (some ⟨ge, 0, none⟩) cp) 24 (0, 0)) := by rw [hb35.block _ hk3]; exact HX3.out
      have hz5 := HB5.out.size
      have h35 := HB3.out.size
      have hap : ∀ (p : Nat), wa'.heap.size ≤ p → ∀ (xo : Option Addr) (L : List Int), IntsAt w xo L → Apart p none xo L := fun p hp xo L hx h0 b hb hf => by
        obtain ⟨bb, off, rfl, hc⟩ := hx.lies h0
        have e : bb = b := by simpa [blockOf] using hb
        have h2 : bb < w.heap.size := lt_cell (hc 0 h0)
        rcases hf with hf | hf
        · omega
        · cases hf
      have hag : ∀ (g : Nat) (L : List Int), g < w3.heap.size → Apart w3.heap.size none (some ⟨g, 0, none⟩) L := fun g L hg h0 b hb hf => by
        have e : g = b := by simpa [blockOf] using hb
        rcases hf with hf | hf
        · omega
        · cases hf
      have hgp3 := HIP.out.lt
      have hge3 := HIE.out.lt
      have ke := encode_all c l HSX.out (some ⟨gp, 0, none⟩) cp (some ⟨ge, 0, none⟩) cp lo lc hlc hl0 w3.heap.size none [] Bits01.nil (by decide) w5 ⟨(HIP.out.below hb35).row (by have := HLP.out; omega) HNP.out.1, (HIE.out.below hb35).row (by have := HLE.out; omega) HNP.out.2, hcm1, hcm2, hco1, hco2⟩ (HLi.out.below (HBL.out.trans (HB5.out.mono (by omega)))) HV5.out (hag _ _ hgp3) (hag _ _ hge3) (hap _ h35 _ _ HLi.out) ni mi
      rw [List.nil_append, HEN.out] at ke
      have v0 : w5.cell? ⟨k3, 0, none⟩ = some (.int .i64 c.m) := by rw [cell_of_row _ _ _ _ _ _ hX5]; rfl
      have v1 : w5.cell? ⟨k3, 1, none⟩ = some (.int .i64 c.o) := by rw [cell_of_row _ _ _ _ _ _ hX5]; rfl
      have v2 : w5.cell? ⟨k3, 2, none⟩ = some (.slice (some ⟨gp, 0, none⟩) c.P.length cp) := by rw [cell_of_row _ _ _ _ _ _ hX5]; rfl
      have v3 : w5.cell? ⟨k3, 3, none⟩ = some (.slice (some ⟨ge, 0, none⟩) c.E.length cp) := by rw [cell_of_row _ _ _ _ _ _ hX5]; rfl
      have hT5 : w5.heap[w.heap.size + 1]? = some (.cells #[.int .i64 ni, .int .i64 mi] 25 (0, 0)) := by rw [HB5.out.block _ (by omega)]; exact HTW.out
      have t0 : w5.cell? ⟨w.heap.size + 1, 0, none⟩ = some (.int .i64 ni) := by rw [cell_of_row _ _ _ _ _ _ hT5]; rfl
      have t1 : w5.cell? ⟨w.heap.size + 1, 1, none⟩ = some (.int .i64 mi) := by rw [cell_of_row _ _ _ _ _ _ hT5]; rfl
      have HAP : Hid (∀ (p : Nat), wa'.heap.size ≤ p → ∀ (xo : Option Addr) (L : List Int), IntsAt w xo L → Apart p none xo L) := hap
      have hl12 : w3.heap.size < w4.heap.size := by omega
      clear hX5 hT5 hap hag hb35 HB5' HX3 HIP HIE HNP HEN HV5 HW4 HB4 hq5 hw5 hz4
      generalize hp1 : w3.heap.size = p1 at *
      generalize hp2 : w4.heap.size = p2 at *
      have hQ0 : ¬ (Q : Int) < 0 := by omega
      go_wp2_with fail
      refine ke.mono ?_
      rintro e w6 ⟨rfl, ao6, hw6, hs6, hm6⟩
      have HB6 : Hid (Below wa'.heap.size wa' w6) := HB5.out.trans (foot_below hs6 hz5 (by omega) (fun b hb => by cases hb))
      have HV6 : Hid (WrB w6 p2 none []) := HW5.out.stays hs6 (fun hf => by
        rcases hf with hf | hf
        · omega
        · cases hf) (fun b hb => by cases hb)
      have kl := len_spec p1 w6 ao6 _ hw6
      rw [HEL.out] at kl
      clear ke hw6 hs6 hm6 v0 v1 v2 v3 t0 t1
      go_wp2_with fail
      refine kl.mono ?_
      rintro e w7 ⟨rfl, rfl⟩
      have hbne : ((Q : Int) != (Q : Int)) = false := by simp
      have HBW : Hid (Below w.heap.size w w7) := HBL.out.trans (HB6.out.mono (by omega))
      have hX7 : w7.heap[w.heap.size]? = some (.cells (riceC r rpa rpc rea rec) 24 (0, 0)) := by rw [HB6.out.block _ (by omega)]; exact HBX.out
      obtain ⟨y0, y1, y2, y3⟩ := RB.of_box hX7
      have hT7 : w7.heap[w.heap.size + 1]? = some (.cells #[.int .i64 ni, .int .i64 mi] 25 (0, 0)) := by rw [HB6.out.block _ (by omega)]; exact HTW.out
      have t0 : w7.cell? ⟨w.heap.size + 1, 0, none⟩ = some (.int .i64 ni) := by rw [cell_of_row _ _ _ _ _ _ hT7]; rfl
      have t1 : w7.cell? ⟨w.heap.size + 1, 1, none⟩ = some (.int .i64 mi) := by rw [cell_of_row _ _ _ _ _ _ hT7]; rfl
      have HP0 : Hid (plT r 0 = (decide (r.m = 0) && decide (r.o ≤ 4))) := by show _ = _; unfold plT; rw [List.take_zero]; simp
      have ke := encode_all r l HSX.out rpa rpc rea rec lo lc hlc hl0 p2 none [] Bits01.nil (by decide) w7 (HRc.out.below HBW.out) (HLi.out.below HBW.out) HV6.out (HAP.out _ (by omega) _ _ HRc.out.P) (HAP.out _ (by omega) _ _ HRc.out.E) (HAP.out _ (by omega) _ _ HLi.out) ni mi
      rw [List.nil_append] at ke
      have KE : Hid (Calls Try.prog 13 #[.pointer (some ⟨p2, 0, none⟩), riceV r rpa rpc rea rec, .int .i64 ni, .int .i64 mi, .slice lo l.length lc] w7 fun en w' => en = .returned (.int .i64 (encN r ni mi l)) ∧ ∃ ao', Hid (WrB w' p2 ao' (encL r ni mi l)) ∧ Hid (Below w.heap.size w w')) := ke.mono fun e w' hx => by
        obtain ⟨h1, ao', h2, h3, h4⟩ := hx
        exact ⟨h1, ao', h2, HBW.out.trans (foot_below h3 HBW.out.size (by omega) (fun b hb => by cases hb))⟩
      have HEE : Hid (IntsAt w rea r.E) := HRc.out.E
      have hel := HRc.out.E.len
      clear kl ke hX7 hT7 HAP HB6 HV6 HW5 HEL
      go_upto_region 11 with fail
      go_cut [11] from 58 to 65 (fun v wx => v = .bool (plT r 0) ∧ wx = w7)
      case first =>
        by_cases g0 : r.m = 0
        · have hb0 : (r.m == 0) = true := by rw [g0]; rfl
          by_cases g1 : r.o ≤ 4
          · have HPZ : Hid (plT r 0 = true) := by show _ = _; rw [HP0.out, decide_eq_true g0, decide_eq_true g1]; rfl
            go_wp2_with fail
            go_meet
            exact ⟨by rw [HPZ.out], rfl⟩
          · have HPZ : Hid (plT r 0 = false) := by show _ = _; rw [HP0.out, decide_eq_true g0, decide_eq_false g1]; rfl
            go_wp2_with fail
            go_meet
            exact ⟨by rw [HPZ.out], rfl⟩
        · have hb0 : (r.m == 0) = false := by rw [beq_eq_false_iff_ne]; exact g0
          have HPZ : Hid (plT r 0 = false) := by show _ = _; rw [HP0.out, decide_eq_false g0]; rfl
          go_wp2_with fail
          go_meet
          exact ⟨by rw [HPZ.out], rfl⟩
      case rest =>
        obtain ⟨rfl, rfl⟩ := hcut
        clear HP0
        go_wp2_with fail
        go_loopw [11, 12] (fun s11 s12 wr => ∃ j : Nat, j ≤ r.E.length ∧ s12 = .int .i64 (j : Int) ∧ s11 = .bool (plT r j) ∧ wr = wc) (fun _ s12 _ => r.E.length - (intOf s12).toNat)
        case atStart => exact ⟨0, Nat.zero_le _, rfl, rfl, by trivial⟩
        case round =>
          obtain ⟨j, hj, rfl, rfl, rfl⟩ := hrel
          by_cases hlt : j < r.E.length
          · obtain ⟨b1, o1, rfl, q1⟩ := HEE.out.at j hlt
            have r1 := q1 wr HBW.out
            have HPS : Hid (plT r (j + 1) = (plT r j && (r.E.getD j 0 == -1))) := plT_succ r j hlt
            clear q1
            generalize r.E.getD j 0 = ev at *
            have hlti : (j : Int) < (r.E.length : Int) := by omega
            cases hpl : plT r j with
            | false =>
              have HPN : Hid (plT r (j + 1) = false) := by show _ = _; rw [HPS.out, hpl]; rfl
              clear HPS
              go_wp2_with fail
              go_roundw
              case rel => exact ⟨j + 1, by omega, by go_num, by rw [HPN.out], by trivial⟩
              case measure => simp [intOf]; omega
            | true =>
              by_cases he : ev = -1
              · have HPN : Hid (plT r (j + 1) = true) := by show _ = _; rw [HPS.out, hpl, he]; rfl
                have hbe : (ev == -1) = true := by rw [he]; rfl
                subst he
                clear HPS
                go_wp2_with fail
                go_roundw
                case rel => exact ⟨j + 1, by omega, by go_num, by rw [HPN.out], by trivial⟩
                case measure => simp [intOf]; omega
              · have hbe : (ev == -1) = false := by rw [beq_eq_false_iff_ne]; exact he
                have HPN : Hid (plT r (j + 1) = false) := by show _ = _; rw [HPS.out, hpl, hbe]; rfl
                clear HPS
                go_wp2_with fail
                go_roundw
                case rel => exact ⟨j + 1, by omega, by go_num, by rw [HPN.out], by trivial⟩
                case measure => simp [intOf]; omega
          · have hje : j = r.E.length := by omega
            subst hje
            cases hpl : plT r r.E.length with
            | false =>
              go_wp2_with fail
              refine (KAw.out _).mono ?_
              rintro e w10 ⟨rfl, hb10⟩
              have HB10 : Hid (Below w.heap.size w w10) := HBW.out.trans (hb10.mono HBW.out.size)
              clear hb10
              go_wp2_with fail
              go_ret
              exact ⟨rfl, HB10.out⟩
            | true =>
              cases hR : encR r ni mi l with
              | false =>
                have e1 : encN r ni mi l = 60 := by unfold encN; rw [hR]; rfl
                rw [e1] at KE
                clear e1 hR HLG
                go_wp2_with fail
                refine KE.out.mono ?_
                rintro e w9 ⟨rfl, ao9, h9, hb9⟩
                go_wp2_with fail
                refine (KAw.out _).mono ?_
                rintro e w10 ⟨rfl, hb10⟩
                have HB10 : Hid (Below w.heap.size w w10) := hb9.out.trans (hb10.mono hb9.out.size)
                clear hb10
                go_wp2_with fail
                go_ret
                exact ⟨rfl, HB10.out⟩
              | true =>
                have e1 : encN r ni mi l = 0 := by unfold encN; rw [hR]; rfl
                have hge : Q ≤ (encL r ni mi l).length := HLG.out hR hpl
                rw [e1] at KE
                clear e1 hR HLG
                generalize encL r ni mi l = LL at *
                go_wp2_with fail
                refine KE.out.mono ?_
                rintro e w9 ⟨rfl, ao9, h9, hb9⟩
                have kl := len_spec p2 w9 ao9 LL h9.out
                have hgi : (Q : Int) ≤ (LL.length : Int) := by omega
                go_wp2_with fail
                refine kl.mono ?_
                rintro e w9' ⟨rfl, rfl⟩
                go_wp2_with fail
                refine (KAw.out _).mono ?_
                rintro e w10 ⟨rfl, hb10⟩
                have HB10 : Hid (Below w.heap.size w w10) := hb9.out.trans (hb10.mono hb9.out.size)
                clear hb10
                go_wp2_with fail
                go_ret
                exact ⟨rfl, HB10.out⟩





set_option maxRecDepth 100000 in
theorem lifted (os : Os) (started : os.Started) (H : Type) (enc : TypeId × Value → H) :
    ReturnsInHanded {} Try.checked os 7 .any (Rows.riceLeastSpec.pre6 enc Try.prog Try.f7 Rows.riceLeastRow.domain false) (Rows.riceLeastSpec.post enc Try.prog Try.f7 false true false false) := by
  refine returnsInHanded_of_change_sized (C := Try.checked) own started (by kernel_rfl) Try.func7
    (ChangeSpec.witness6 (enc := enc) (C := Try.checked) false ⟨#[], #[.agg #[.int .i64 0, .int .i64 0, .slice none 0 0, .slice none 0 0], .agg #[.int .i64 0, .int .i64 0], .slice none 0 0], []⟩ 8 (by kernel_rfl) (by kernel_rfl) (by kernel_rfl) (by kernel_rfl)) ?_
  intro W base args ds gs before hval0 hW hcnd0 hsz0 hholds
  have hval : ∀ (j : Nat) t v, Try.f7.params[j]? = some t → args[j]? = some v → Value.okWide Try.prog W .any base t v := hval0
  have hsz : (DataW.weightsEach Try.prog (Try.f7.params.toList ++ Rows.riceLeastSpec.plain.varTypes Try.prog) (ds ++ gs)).all (· ≤ reachBytes) = true := hsz0
  have hW' := hW
  obtain ⟨p, q, hA0, hV, rfl, hfz, hnd⟩ := hW
  have hA : DataW.TrodAll enc Try.prog W 0 (fun _ => true) true Try.f7.params.toList args.toList ds p := hA0
  rw [Try.params7] at hA hval hsz
  obtain ⟨v0, vs0, d0, ds0, p0, q0, hargs, rfl, rfl, h0, r0⟩ := trodAll_cons hA
  obtain ⟨v1, vs1, d1, ds1, p1, q1, rfl, rfl, rfl, h1, r1⟩ := trodAll_cons r0
  obtain ⟨v2, vs2, d2, ds2, p2, q2, rfl, rfl, rfl, h2, r2⟩ := trodAll_cons r1
  obtain ⟨rfl, rfl, rfl⟩ := trodAll_nil r2
  obtain rfl : args = #[v0, v1, v2] := by cases args; simp_all
  obtain ⟨rfl, rfl⟩ := trodVars_none hV
  have hall := List.all_eq_true.1 hsz
  have hw0 : ∀ n ∈ d0.weights Try.prog 24, n ≤ reachBytes := fun n hn => by
    have := hall n (List.mem_append.2 (.inl hn))
    exact of_decide_eq_true this
  have k0 := h0
  have lt0 : ∀ x ∈ p0, x.block < W.heap.size := by obtain ⟨m, hm⟩ := k0; exact DataW.trod_lt m _ _ _ hm
  obtain ⟨x0, pa0, pc0, ea0, ec0, rfl, hr0⟩ := open_rice (hval 0 24 v0 rfl rfl) h0 hw0
  have k1 := h1
  have lt1 : ∀ x ∈ p1, x.block < W.heap.size := by obtain ⟨m, hm⟩ := k1; exact DataW.trod_lt m _ _ _ hm
  obtain ⟨xa1, xb1, rfl, ⟨ta1, tb1⟩, ⟨tc1, td1⟩⟩ := open_two (hval 1 25 v1 rfl rfl) h1
  have hw2 : ∀ n ∈ d2.weights Try.prog 22, n ≤ reachBytes := fun n hn => by
    have := hall n (List.mem_append.2 (.inr (List.mem_append.2 (.inr (List.mem_append.2 (.inl hn))))))
    exact of_decide_eq_true this
  have k2 := h2
  have lt2 : ∀ x ∈ p2, x.block < W.heap.size := by obtain ⟨m, hm⟩ := k2; exact DataW.trod_lt m _ _ _ hm
  obtain ⟨o2, c2, x2, rfl, hr2, hc2, hn2⟩ := open_list (hval 2 22 v2 rfl rfl) h2 hw2
  clear hA0 hval0
  refine (walk x0 pa0 pc0 ea0 ec0 xa1 xb1 ta1 tb1 tc1 td1 x2 o2 c2 hc2 hn2 W hr0 hr2).mono fun e W' ⟨he, bel⟩ => ?_
  subst he
  exact ⟨_, rfl, _, _, _, [], _, [], hW', trodAll_mk1 (shut_bool Try.underlying4 _), (trodAll_cons_mk (Below.trod laidOut (by kernel_rfl) (of_decide_eq_true (by kernel_rfl)) k0 bel lt0) (trodAll_cons_mk (Below.trod laidOut (by kernel_rfl) (of_decide_eq_true (by kernel_rfl)) k1 bel lt1) (trodAll_cons_mk (Below.trod laidOut (by kernel_rfl) (of_decide_eq_true (by kernel_rfl)) k2 bel lt2) trodAll_mk0))), rfl, bel.frame _, fun h => by cases h⟩

theorem over : Rows.riceLeastRow.holds Try.pinned (OpenSpec.ofChange Rows.riceLeastSpec) :=
  OpenClaim.holds_of_wide 7 Try.f7 rfl rfl rfl rfl rfl rfl rfl ⟨rfl, rfl, rfl, rfl, rfl⟩ rfl rfl rfl rfl rfl (by kernel_rfl) Try.func7 (by kernel_rfl)
    (of_decide_eq_true (by kernel_rfl)) (by unfold Func.isWrapper; first | (rw [if_pos (by decide +kernel)]; kernel_rfl) | (rw [if_neg (by decide +kernel)]; exact ⟨rfl, rfl⟩))
    (fun os started H enc _ => lifted os started H enc)

end Go.Proofs.Ytdlakbgcflekkaa.riceLeast
namespace Go.Proofs.Ytdlakbgcflekkaa
theorem riceLeast_holds : Rows.RiceLeastSaid := riceLeast.over
#print axioms riceLeast_holds
end Go.Proofs.Ytdlakbgcflekkaa

/-
  SubframeAgain: bits that Decode reads as a subframe are written by Encode again as they were; whatever the text, the block and the width. No condition.
-/
import Derived.Test.YtkhdkmdiblomhaaG35x
import Derived.Deep.CutRange
import Derived.WalkKit
import Derived.ProofKit
import Derived.OpenShut
import Derived.ShutString
import Derived.ChangeOld
import Derived.Below
import Derived.SizedLaws

namespace Go.Proofs.Ytkhdkmdiblomhaa.subframeAgain
open Go.ChangeShapes Go.WideShapes Go.ChangeAt Go.RowKit
open Go.ChangeMaps (open_string shut_string)
set_option linter.unusedSimpArgs false
set_option linter.unusedVariables false

theorem own : ownKnob Try.prog.godebug = none := by kernel_rfl
theorem laidOut : laidOutB Try.prog = true := by kernel_rfl

theorem bits_same (s t : ByteArray) (BB R1 R2 : List Nat) (h1 : ahead s 0 = BB ++ R1) (h2 : ahead t 0 = BB ++ R2) (a n : Nat) (h : a + n ≤ BB.length) : bitsAt s a n = bitsAt t a n := by
  have e : ∀ (u : ByteArray) (R : List Nat), ahead u 0 = BB ++ R → bitsAt u a n = num ((BB.drop a).take n) := fun u R hu => by
    have h3 : ahead u a = (BB.drop a) ++ R := by
      have := ahead_drop u 0 a
      rw [Nat.zero_add] at this
      rw [← this, hu, List.drop_append_of_le_length (by omega)]
    show num ((ahead u a).take n) = _
    rw [h3, List.take_append_of_le_length (by rw [List.length_drop]; omega)]
  rw [e s R1 h1, e t R2 h2]
theorem get_fact (s : ByteArray) (a n : Nat) (hn : n ≤ 64) (h : a + n ≤ 8 * s.size) : getE s a n = 0 ∧ getV s a n = (bitsAt s a n : Int) ∧ getA s a n = a + n := by
  have e : getE s a n = 0 := by unfold getE; rw [if_neg (by omega), if_neg (by omega)]
  refine ⟨e, ?_, ?_⟩
  · rw [getV_nat s a n e]; rfl
  · unfold getA; rw [if_pos e]; rfl
theorem step64 (lf : Int) (h : 0 < lf) : ∃ n : Nat, (if 64 < lf then 64 else lf) = (n : Int) ∧ 1 ≤ n ∧ n ≤ 64 ∧ (n : Int) ≤ lf ∧ (64 < lf → n = 64) ∧ (lf ≤ 64 → (n : Int) = lf) := by
  by_cases h1 : 64 < lf
  · exact ⟨64, by rw [if_pos h1]; rfl, by omega, by omega, by omega, fun _ => rfl, fun h2 => by omega⟩
  · exact ⟨lf.toNat, by rw [if_neg h1]; omega, by omega, by omega, by omega, fun h2 => absurd h2 h1, fun _ => by omega⟩

set_option maxRecDepth 20000 in
set_option maxHeartbeats 3200000 in
theorem walk (t : ByteArray) (ht : t.size ≤ 140737488351232) (block : Int) (block1 : -9223372036854775808 ≤ block) (block2 : block ≤ 9223372036854775807) (width : Int) (width1 : -9223372036854775808 ≤ width) (width2 : width ≤ 9223372036854775807) (w : World) :
    Calls Try.prog 4 #[.string t, .int .i64 block, .int .i64 width] w fun e w' => e = .returned (.bool true) ∧ Below w.heap.size w w' := by

  have KAw : Hid (∀ wx, Calls Try.prog 7 #[] wx fun e w' => e = .returned (.bool true) ∧ Below wx.heap.size wx w') := fun wx => awake_spec wx
  have ko := of_spec t (by omega) w
  go_enter Try.func4, Try.ntmps4
  go_wp2_with fail
  refine ko.mono ?_
  rintro e w1 ⟨rfl, hr1, hb1⟩
  have HL1 : Hid (Below w.heap.size w w1) := hb1
  have HR1 : Hid (Rd w1 w.heap.size t 0) := hr1
  have hx1 := hr1.lt
  have kn := new_spec w1
  clear ko hr1 hb1
  go_wp2_with fail
  refine kn.mono ?_
  rintro e w2 ⟨rfl, hw2, hq2⟩
  have hb2 : Below w1.heap.size w1 w2 := by rw [hq2]; exact (Below.refl _ _).alloc (Nat.le_refl _) _
  have hz2 : w1.heap.size < w2.heap.size := by rw [hq2]; simp
  have HL2 : Hid (Below w.heap.size w w2) := HL1.out.trans (hb2.mono HL1.out.size)
  have HR2 : Hid (Rd w2 w.heap.size t 0) := HR1.out.below hb2
  have HW2 : Hid (WrB w2 w1.heap.size none []) := hw2
  clear kn hw2 hq2 hb2 HL1 HR1
  generalize hp : w1.heap.size = p at *
  clear hp
  by_cases hargs : (1 ≤ block ∧ block ≤ 65535) ∧ (1 ≤ width ∧ width ≤ 33)
  case neg =>
    have kd := does10.dec_arg w.heap.size t 0 block width w2 ⟨block1, block2⟩ ⟨width1, width2⟩ HR2.out hargs
    clear hargs

    go_wp2_with fail
    refine kd.mono ?_
    rintro e w3 ⟨rfl, hb3⟩
    have HL3 : Hid (Below w.heap.size w w3) := HL2.out.trans (hb3.mono HL2.out.size)
    have HA4 : Hid (Below w3.heap.size w3 (w3.alloc (.cells #[.int .i64 0, .int .i64 0, .int .i64 0, .int .i64 0, .int .i64 0, .slice none 0 0, .int .i64 0, .int .i64 0, .slice none 0 0, .slice none 0 0] 26))) := (Below.refl _ _).alloc (Nat.le_refl _) _
    clear kd hb3
    go_upto_region 6 with fail
    generalize hw4 : World.alloc _ _ = w4 at *
    clear hw4
    have HL4 : Hid (Below w.heap.size w w4) := HL3.out.trans (HA4.out.mono HL3.out.size)
    clear HA4 HL3
    go_wp2_with fail
    refine (KAw.out w4).mono ?_
    rintro e w5 ⟨rfl, hb5⟩
    have HL5 : Hid (Below w.heap.size w w5) := HL4.out.trans (hb5.mono HL4.out.size)
    clear hb5
    go_wp2_with fail
    go_ret
    exact ⟨rfl, HL5.out⟩
  case pos =>
  have HAR : Hid ((1 ≤ block ∧ block ≤ 65535) ∧ (1 ≤ width ∧ width ≤ 33)) := hargs
  clear hargs
  cases hd : decS t 0 block width with
  | none =>
    have kd := does10.dec_no w.heap.size t 0 block width w2 ht (by omega) HAR.out.1 HAR.out.2 HR2.out hd
    clear hd

    go_wp2_with fail
    refine kd.mono ?_
    rintro e w3 ⟨rfl, hb3⟩
    have HL3 : Hid (Below w.heap.size w w3) := HL2.out.trans (only_below hb3 HL2.out.size (Nat.le_refl _))
    have HA4 : Hid (Below w3.heap.size w3 (w3.alloc (.cells #[.int .i64 0, .int .i64 0, .int .i64 0, .int .i64 0, .int .i64 0, .slice none 0 0, .int .i64 0, .int .i64 0, .slice none 0 0, .slice none 0 0] 26))) := (Below.refl _ _).alloc (Nat.le_refl _) _
    clear kd hb3
    go_upto_region 6 with fail
    generalize hw4 : World.alloc _ _ = w4 at *
    clear hw4
    have HL4 : Hid (Below w.heap.size w w4) := HL3.out.trans (HA4.out.mono HL3.out.size)
    clear HA4 HL3
    go_wp2_with fail
    refine (KAw.out w4).mono ?_
    rintro e w5 ⟨rfl, hb5⟩
    have HL5 : Hid (Below w.heap.size w w5) := HL4.out.trans (hb5.mono HL4.out.size)
    clear hb5
    go_wp2_with fail
    go_ret
    exact ⟨rfl, HL5.out⟩
  | some r =>
    obtain ⟨l, q, a1⟩ := r
    obtain ⟨g1, g2, g3, g4, g5⟩ := sub_again HAR.out.1 HAR.out.2 hd
    have kd := does10.dec_ok w.heap.size t 0 block width l q a1 w2 ht (by omega) HAR.out.1 HAR.out.2 HR2.out hd
    have hok : okS q width l := ⟨by rw [g2]; exact g1, g3⟩
    rw [Nat.zero_add] at g5
    have hfit : (subB q width l).length ≤ 8 * t.size := by
      have h6 := congrArg List.length g4
      rw [ahead_length, List.length_append] at h6
      omega
    have HOK : Hid (okS q width l) := hok
    have hrm := subB_room q width l hok
    have h01 := subB_01 q width l
    have KE : Hid (∀ wx la lc ca cc pa pc ea ec ao, l.length ≤ lc → (la = none → lc = 0) → (ca = none → cc = 0) → q.C.length ≤ cc → ao = none → SbAt wx q ca pa ea → IntsAt wx la l → WrB wx p ao [] → Apart p none ca q.C → Apart p none pa q.R.P → Apart p none ea q.R.E → Apart p none la l → Calls Try.prog 9 #[.pointer (some ⟨p, 0, none⟩), subV q ca cc pa pc ea ec, .int .i64 width, .slice la l.length lc] wx fun e w' => e = .returned (.int .i64 0) ∧ ∃ ao', WrB w' p ao' (subB q width l) ∧ Stays (foot p none) wx w') := fun wx la lc ca cc pa pc ea ec ao h1 h2 h3 h4 h5 h6 h7 h8 h9 h10 h11 h12 => by
      subst h5
      refine (does10.enc_ok q width l ca cc pa pc ea ec la lc p none [] wx h1 h2 h3 h4 Bits01.nil (by decide) h6 h7 h8 h9 h10 h11 h12 hok).mono fun e w' hh => ?_
      obtain ⟨k1, ao', k2, k3, _⟩ := hh
      exact ⟨k1, ao', k2, k3⟩
    obtain ⟨R2, p1, p2⟩ := ahead_pack (subB q width l) [] (subB q width l) [] h01 (by simp)
    simp only [List.length_nil, Nat.zero_add, Nat.add_zero] at p1 p2
    have HSM : Hid (∀ a n, a + n ≤ (subB q width l).length → bitsAt t a n = bitsAt (textOf (pack (subB q width l))) a n) := fun a n h => bits_same _ _ _ _ _ g4 p1 a n h
    clear hd g1 g2 g3 g4 hok p1
    generalize subB q width l = BB at *
    have hsz : (textOf (pack BB)).size ≤ 1000000000000 := by rw [textOf_size, pack_length]; omega
    subst g5
    go_wp2_with fail
    refine kd.mono ?_
    rintro e w3 ⟨la, lc, ca, cc, pa, pc, ea, ec, rfl, hi3, hlc, hs3, hcc, ⟨f1, f2, f3, f4⟩, hr3, hst3⟩
    have HL3 : Hid (Below w.heap.size w w3) := HL2.out.trans (only_below hst3 HL2.out.size (Nat.le_refl _))
    have HW3 : Hid (WrB w3 p none []) := HW2.out.only hst3 (by omega) (fun b hb => by cases hb)
    have hz3 := hst3.size
    have HI3 : Hid (IntsAt w3 la l) := hi3
    have HS3 : Hid (SbAt w3 q ca pa ea) := hs3
    have HR3 : Hid (Rd w3 w.heap.size t BB.length) := hr3
    have HF : Hid ((l.length ≤ lc ∧ (la = none → lc = 0)) ∧ (q.C.length ≤ cc ∧ (ca = none → cc = 0)) ∧ Apart p none ca q.C ∧ Apart p none pa q.R.P ∧ Apart p none ea q.R.E ∧ Apart p none la l) := ⟨hlc, hcc, apart_new f2 (by omega), apart_new f3 (by omega), apart_new f4 (by omega), apart_new f1 (by omega)⟩
    have HA4 : Hid (Below w3.heap.size w3 (w3.alloc (.cells (subC q ca cc pa pc ea ec) 26))) := (Below.refl _ _).alloc (Nat.le_refl _) _
    have HX4 : Hid ((w3.alloc (.cells (subC q ca cc pa pc ea ec) 26)).heap[w3.heap.size]? = some (.cells (subC q ca cc pa pc ea ec) 26 (0, 0))) := heap_alloc_new _ _
    clear kd hi3 hlc hs3 hcc f1 f2 f3 f4 hr3 hst3 HL2 HW2 HR2
    go_upto_region 6 with fail
    generalize hw4 : World.alloc _ _ = w4 at *
    generalize hk4 : w3.heap.size = k4 at *
    rw [← hk4] at HA4
    have HL4 : Hid (Below w.heap.size w w4) := HL3.out.trans (HA4.out.mono HL3.out.size)
    have HW4 : Hid (WrB w4 p none []) := HW3.out.below HA4.out
    have HI4 : Hid (IntsAt w4 la l) := HI3.out.below HA4.out
    have HS4 : Hid (SbAt w4 q ca pa ea) := HS3.out.below HA4.out
    have HR4 : Hid (Rd w4 w.heap.size t BB.length) := HR3.out.below HA4.out
    have hz4 := HA4.out.size
    obtain ⟨x0, x1, x2, x3, x4, x5, x6, x7, x8, x9⟩ := sub_cells HX4.out
    have ke := KE.out w4 la lc ca cc pa pc ea ec none HF.out.1.1 HF.out.1.2 HF.out.2.1.2 HF.out.2.1.1 rfl HS4.out HI4.out HW4.out HF.out.2.2.1 HF.out.2.2.2.1 HF.out.2.2.2.2.1 HF.out.2.2.2.2.2
    clear hw4 hk4 HA4 HX4 HL3 HW3 HI3 HS3 HR3 KE HF
    go_wp2_with fail
    refine ke.mono ?_
    rintro e w5 ⟨rfl, ao5, hw5, hs5⟩
    have HL5 : Hid (Below w.heap.size w w5) := HL4.out.trans (foot_below hs5 HL4.out.size (by omega) (fun b hb => by cases hb))
    have HR5 : Hid (Rd w5 w.heap.size t BB.length) := HR4.out.stays hs5 (foot_ne (by omega))
    have HW5 : Hid (WrB w5 p ao5 BB) := hw5
    have kl := len_spec p w5 ao5 BB hw5
    have ka := at_spec w.heap.size t BB.length w5 HR5.out
    have kb := bytes_spec p w5 ao5 BB h01 (by omega) hw5
    clear ke hw5 hs5 x0 x1 x2 x3 x4 x5 x6 x7 x8 x9 HL4 HW4 HI4 HS4 HR4
    go_wp2_with fail
    refine kl.mono ?_
    rintro e wa ⟨rfl, hq⟩
    subst hq
    clear kl
    go_wp2_with fail
    refine ka.mono ?_
    rintro e wb ⟨rfl, hq⟩
    subst hq
    clear ka
    have ko := of_spec t (by omega) wb
    have hbn : ((BB.length : Int) != (BB.length : Int)) = false := by rw [bne_eq_false_iff_eq]
    go_wp2_with fail
    refine ko.mono ?_
    rintro e w6 ⟨rfl, hr6, hb6⟩
    have HL6 : Hid (Below w.heap.size w w6) := HL5.out.trans (hb6.mono HL5.out.size)
    have HR6 : Hid (Rd w6 wb.heap.size t 0) := hr6
    have HW6 : Hid (WrB w6 p ao5 BB) := HW5.out.below hb6
    have hy6 : w.heap.size ≤ wb.heap.size := HL5.out.size
    have hy7 := hr6.lt
    clear ko kb hr6 hb6 HL5 HR5 HW5
    generalize hyy : wb.heap.size = y at *
    clear hyy
    have kb := bytes_spec p w6 ao5 BB h01 (by omega) HW6.out
    have ko := of_spec (textOf (pack BB)) (by omega) w6
    go_wp2_with fail
    refine kb.mono ?_
    rintro e wc ⟨rfl, hq⟩
    subst hq
    clear kb
    go_wp2_with fail
    refine ko.mono ?_
    rintro e w7 ⟨rfl, hr7, hb7⟩
    have HL7 : Hid (Below w.heap.size w w7) := HL6.out.trans (hb7.mono HL6.out.size)
    have HR7 : Hid (Rd w7 y t 0) := HR6.out.below hb7
    have HZ7 : Hid (Rd w7 wc.heap.size (textOf (pack BB)) 0) := hr7
    have kl := len_spec p w7 ao5 BB (HW6.out.below hb7)
    have hzz : y < wc.heap.size := hy7
    clear ko hr7 hb7 HL6 HR6 HW6
    generalize hzn : wc.heap.size = z at *
    clear hzn hy7
    go_wp2_with fail
    refine kl.mono ?_
    rintro e w8 ⟨rfl, hq⟩
    subst hq
    clear kl
    go_wp2_with fail
    go_loopw [14, 15, 16, 17, 18, 19] (fun s14 s15 s16 s17 s18 s19 wr => ∃ (lf : Int) (ps : Nat), s14 = .int .i64 lf ∧ ps ≤ BB.length ∧ (0 < lf → lf = (BB.length : Int) - (ps : Int)) ∧ (-64 ≤ lf ∧ lf ≤ (BB.length : Int)) ∧ Rd wr y t ps ∧ Rd wr z (textOf (pack BB)) ps ∧ Below w.heap.size w wr) (fun s14 _ _ _ _ _ _ => (intOf s14).toNat)
    case atStart => exact ⟨_, 0, rfl, Nat.zero_le _, fun _ => by omega, ⟨by omega, by omega⟩, HR7.out, HZ7.out, HL7.out⟩
    case round =>
      clear HR7 HZ7 HL7
      obtain ⟨lf, ps, rfl, hps, hlf, hlb, hry, hrz, hbe⟩ := hrel
      have HY : Hid (Rd wr y t ps) := hry
      have HZ : Hid (Rd wr z (textOf (pack BB)) ps) := hrz
      have HL : Hid (Below w.heap.size w wr) := hbe
      clear hry hrz hbe
      by_cases hpos : 0 < lf
      · have hlf2 := hlf hpos
        obtain ⟨n, hn, n1, n64, nle, nb, ns⟩ := step64 lf hpos
        obtain ⟨e1, v1, a1⟩ := get_fact t ps n n64 (by omega)
        obtain ⟨e2, v2, a2⟩ := get_fact (textOf (pack BB)) ps n n64 (by omega)
        have hsm := HSM.out ps n (by omega)
        have k1 := get_all t (by omega) ps (by omega) wr y n HY.out
        rw [e1, v1, a1, hsm] at k1
        have k2 := fun wx hx => get_all (textOf (pack BB)) (by omega) ps (by omega) wx z n hx
        rw [e2, v2, a2] at k2
        have K2 : Hid (∀ wx, Rd wx z (textOf (pack BB)) ps → Calls Try.prog 17 #[.pointer (some ⟨z, 0, none⟩), .int .i64 (n : Int)] wx fun e w' => e = .returned (.tuple #[.int .u64 (bitsAt (textOf (pack BB)) ps n : Int), .int .i64 0]) ∧ Rd w' z (textOf (pack BB)) (ps + n) ∧ Stays (only z) wx w') := k2
        have HPN : Hid (ps + n ≤ BB.length ∧ (0 < lf - 64 → lf - 64 = (BB.length : Int) - ((ps + n : Nat) : Int)) ∧ (-64 ≤ lf - 64 ∧ lf - 64 ≤ (BB.length : Int))) := by
          refine ⟨by omega, fun h => ?_, by omega⟩
          have := nb (by omega)
          omega
        have hlw : IntKind.i64.wrap (lf - 64) = lf - 64 := by rw [IntKind.wrap_i64]; omega
        clear e1 v1 a1 e2 v2 a2 hsm k2 hlf hlf2 nb ns
        generalize bitsAt (textOf (pack BB)) ps n = V at *
        go_wp2_with fail
        refine k1.mono ?_
        rintro e w9 ⟨rfl, hr9, hs9⟩
        have HY9 : Hid (Rd w9 y t (ps + n)) := hr9
        have HZ9 : Hid (Rd w9 z (textOf (pack BB)) ps) := HZ.out.stays hs9 (fun e => by unfold only at e; omega)
        have HL9 : Hid (Below w.heap.size w w9) := HL.out.trans (only_below hs9 HL.out.size (by omega))
        have kk := K2.out w9 HZ9.out
        clear k1 hr9 hs9 HY HZ HL K2
        go_wp2_with fail
        refine kk.mono ?_
        rintro e w10 ⟨rfl, hr10, hs10⟩
        have HY10 : Hid (Rd w10 y t (ps + n)) := HY9.out.stays hs10 (fun e => by unfold only at e; omega)
        have HZ10 : Hid (Rd w10 z (textOf (pack BB)) (ps + n)) := hr10
        have HL10 : Hid (Below w.heap.size w w10) := HL9.out.trans (only_below hs10 HL9.out.size (by omega))
        have hbv : ((V : Int) != (V : Int)) = false := by rw [bne_eq_false_iff_eq]
        clear kk hr10 hs10 HY9 HZ9 HL9
        go_wp2_with fail
        go_roundw
        case rel => exact ⟨lf - 64, ps + n, by first | rfl | (rw [hlw]), HPN.out.1, HPN.out.2.1, HPN.out.2.2, HY10.out, HZ10.out, HL10.out⟩
        case measure => simp [intOf]; omega
      · go_wp2_with fail
        refine (KAw.out wr).mono ?_
        rintro e w11 ⟨rfl, hb11⟩
        have HL11 : Hid (Below w.heap.size w w11) := HL.out.trans (hb11.mono HL.out.size)
        clear hb11
        go_wp2_with fail
        go_ret
        exact ⟨rfl, HL11.out⟩


set_option maxRecDepth 100000 in
theorem lifted (os : Os) (started : os.Started) (H : Type) (enc : TypeId × Value → H) :
    ReturnsInHanded {} Try.checked os 4 .any (Rows.subframeAgainSpec.pre6 enc Try.prog Try.f4 Rows.subframeAgainRow.domain false) (Rows.subframeAgainSpec.post enc Try.prog Try.f4 false true false false) := by
  refine returnsInHanded_of_change_sized (C := Try.checked) own started (by kernel_rfl) Try.func4
    (ChangeSpec.witness6 (enc := enc) (C := Try.checked) false ⟨#[], #[.string ByteArray.empty, .int .i64 0, .int .i64 0], []⟩ 8 (by kernel_rfl) (by kernel_rfl) (by kernel_rfl) (by kernel_rfl)) ?_
  intro W base args ds gs before hval0 hW hcnd0 hsz0 hholds
  have hval : ∀ (j : Nat) t v, Try.f4.params[j]? = some t → args[j]? = some v → Value.okWide Try.prog W .any base t v := hval0
  have hsz : (DataW.weightsEach Try.prog (Try.f4.params.toList ++ Rows.subframeAgainSpec.plain.varTypes Try.prog) (ds ++ gs)).all (· ≤ reachBytes) = true := hsz0
  have hW' := hW
  obtain ⟨p, q, hA0, hV, rfl, hfz, hnd⟩ := hW
  have hA : DataW.TrodAll enc Try.prog W 0 (fun _ => true) true Try.f4.params.toList args.toList ds p := hA0
  rw [Try.params4] at hA hval hsz
  obtain ⟨v0, vs0, d0, ds0, p0, q0, hargs, rfl, rfl, h0, r0⟩ := trodAll_cons hA
  obtain ⟨v1, vs1, d1, ds1, p1, q1, rfl, rfl, rfl, h1, r1⟩ := trodAll_cons r0
  obtain ⟨v2, vs2, d2, ds2, p2, q2, rfl, rfl, rfl, h2, r2⟩ := trodAll_cons r1
  obtain ⟨rfl, rfl, rfl⟩ := trodAll_nil r2
  obtain rfl : args = #[v0, v1, v2] := by cases args; simp_all
  obtain ⟨rfl, rfl⟩ := trodVars_none hV
  have hall := List.all_eq_true.1 hsz
  obtain ⟨x0, rfl, rfl, rfl, i0⟩ := open_string Try.underlying9 (hval 0 9 v0 rfl rfl) h0
  have hq0 := sized_string hsz (j := 0) (t := 9) rfl rfl
  have hz0 : x0.size ≤ 140737488351232 := by
    have e : x0.data.toList.length = x0.size := by rw [Array.length_toList]; rfl
    rw [e] at hq0
    simp only [reachBytes] at hq0
    omega
  obtain ⟨x1, rfl, rfl, rfl, i1⟩ := open_int Try.underlying3 (hval 1 3 v1 rfl rfl) h1
  have ib1 := bounds_i64 i1
  obtain ⟨x2, rfl, rfl, rfl, i2⟩ := open_int Try.underlying3 (hval 2 3 v2 rfl rfl) h2
  have ib2 := bounds_i64 i2
  clear hA0 hval0
  refine (walk x0 hz0 x1 ib1.1 ib1.2 x2 ib2.1 ib2.2 W).mono fun e W' ⟨he, bel⟩ => ?_
  subst he
  exact ⟨_, rfl, _, _, _, [], _, [], hW', trodAll_mk1 (shut_bool Try.underlying4 _), (trodAll_cons_mk (shut_string Try.underlying9 i0) (trodAll_cons_mk (shut_int Try.underlying3 i1) (trodAll_cons_mk (shut_int Try.underlying3 i2) trodAll_mk0))), rfl, bel.frame _, fun h => by cases h⟩

theorem over : Rows.subframeAgainRow.holds Try.pinned (OpenSpec.ofChange Rows.subframeAgainSpec) :=
  OpenClaim.holds_of_wide 4 Try.f4 rfl rfl rfl rfl rfl rfl rfl ⟨rfl, rfl, rfl, rfl, rfl⟩ rfl rfl rfl rfl rfl (by kernel_rfl) Try.func4 (by kernel_rfl)
    (of_decide_eq_true (by kernel_rfl)) (by unfold Func.isWrapper; first | (rw [if_pos (by decide +kernel)]; kernel_rfl) | (rw [if_neg (by decide +kernel)]; exact ⟨rfl, rfl⟩))
    (fun os started H enc _ => lifted os started H enc)

end Go.Proofs.Ytkhdkmdiblomhaa.subframeAgain
namespace Go.Proofs.Ytkhdkmdiblomhaa
theorem subframeAgain_holds : Rows.SubframeAgainSaid := subframeAgain.over
#print axioms subframeAgain_holds
end Go.Proofs.Ytkhdkmdiblomhaa

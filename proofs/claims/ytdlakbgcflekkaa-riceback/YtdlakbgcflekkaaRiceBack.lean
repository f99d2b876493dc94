/-
  RiceBack: residuals that Encode wrote are read by Decode as they were, with their recipe, and just so far; whatever the recipe, the block and the residuals. No condition.
-/
import Derived.Test.YtdlakbgcflekkaaP8args
import Derived.WalkKit
import Derived.ProofKit
import Derived.OpenShut
import Derived.ShutString
import Derived.ChangeOld
import Derived.Below
import Derived.SizedLaws

namespace Go.Proofs.Ytdlakbgcflekkaa.riceBack
open Go.ChangeShapes Go.WideShapes Go.ChangeAt Go.RowKit
open Go.ChangeMaps (open_string shut_string)
set_option linter.unusedSimpArgs false
set_option linter.unusedVariables false

theorem own : ownKnob Try.prog.godebug = none := by kernel_rfl
theorem laidOut : laidOutB Try.prog = true := by kernel_rfl

set_option maxRecDepth 20000 in
set_option maxHeartbeats 3200000 in
theorem walk (r : Rc) (rpa : Option Addr) (rpc : Nat) (rea : Option Addr) (rec : Nat) (na nb : Int) (na1 : -9223372036854775808 ≤ na) (na2 : na ≤ 9223372036854775807) (nb1 : -9223372036854775808 ≤ nb) (nb2 : nb ≤ 9223372036854775807) (l : List Int) (lo : Option Addr) (lc : Nat) (hlc : l.length ≤ lc) (hl0 : lo = none → lc = 0) (w : World) (rr : RcAt w r rpa rea) (rl : IntsAt w lo l) :
    Calls Try.prog 5 #[riceV r rpa rpc rea rec, .agg #[.int .i64 na, .int .i64 nb], .slice lo l.length lc] w fun e w' => e = .returned (.bool true) ∧ Below w.heap.size w w' := by

  have KSh : Hid (∀ wx, Below w.heap.size w wx → Calls Try.prog 8 #[.slice lo l.length lc] wx fun e w' => e = .returned (.bool (shB l)) ∧ w' = wx) := fun wx hb => short_spec l lo lc wx (rl.below hb)
  have KAw : Hid (∀ wx, Calls Try.prog 9 #[] wx fun e w' => e = .returned (.bool true) ∧ Below wx.heap.size wx w') := fun wx => awake_spec wx
  have HBX : Hid (((w.alloc (.cells (riceC r rpa rpc rea rec) 24)).alloc (.cells #[.int .i64 na, .int .i64 nb] 25)).heap[w.heap.size]? = some (.cells (riceC r rpa rpc rea rec) 24 (0, 0))) := heap_two _ _ _
  have HTW : Hid (((w.alloc (.cells (riceC r rpa rpc rea rec) 24)).alloc (.cells #[.int .i64 na, .int .i64 nb] 25)).heap[w.heap.size + 1]? = some (.cells #[.int .i64 na, .int .i64 nb] 25 (0, 0))) := by
    have hh := heap_alloc_new (w.alloc (.cells (riceC r rpa rpc rea rec) 24)) (.cells #[.int .i64 na, .int .i64 nb] 25)
    rw [show (w.alloc (.cells (riceC r rpa rpc rea rec) 24)).heap.size = w.heap.size + 1 from by simp] at hh
    exact hh
  have HBL : Hid (Below w.heap.size w ((w.alloc (.cells (riceC r rpa rpc rea rec) 24)).alloc (.cells #[.int .i64 na, .int .i64 nb] 25))) := ((Below.refl _ _).alloc (Nat.le_refl _) _).alloc (by simp) _
  have HRc : Hid (RcAt w r rpa rea) := rr
  have HLi : Hid (IntsAt w lo l) := rl
  clear rr rl
  by_cases hsh : ShX l
  case neg =>
    rw [shB_no hsh] at KSh
    clear hsh
    go_enter Try.func5, Try.ntmps5
    go_wp2_with fail
    generalize hwa : World.alloc (World.alloc _ _) _ = wa at *
    clear hwa
    refine (KSh.out wa HBL.out).mono ?_
    rintro e wa' ⟨rfl, rfl⟩
    go_wp2_with fail
    refine (KAw.out wa').mono ?_
    rintro e w2 ⟨rfl, hb2⟩
    have HB2 : Hid (Below w.heap.size w w2) := HBL.out.trans (hb2.mono HBL.out.size)
    clear hb2
    go_wp2_with fail
    go_ret
    exact ⟨rfl, HB2.out⟩
  case pos =>
    rw [shB_yes hsh] at KSh
    have HSX : Hid (ShX l) := hsh
    have h5 := hsh.2
    clear hsh
    go_enter Try.func5, Try.ntmps5
    go_wp2_with fail
    generalize hwa : World.alloc (World.alloc _ _) _ = wa at *
    clear hwa
    refine (KSh.out wa HBL.out).mono ?_
    rintro e wa' ⟨rfl, rfl⟩
    have hza : w.heap.size + 1 < wa'.heap.size := lt_of_block HTW.out
    have kn := new_spec wa'
    go_wp2_with fail
    refine kn.mono ?_
    rintro e w3 ⟨rfl, hw3, hq3⟩
    have hb3 : Below wa'.heap.size wa' w3 := by rw [hq3]; exact (Below.refl _ _).alloc (Nat.le_refl _) _
    have HW3 : Hid (WrB w3 wa'.heap.size none []) := hw3
    have HB3 : Hid (Below w.heap.size w w3) := HBL.out.trans (hb3.mono HBL.out.size)
    have hX3 : w3.heap[w.heap.size]? = some (.cells (riceC r rpa rpc rea rec) 24 (0, 0)) := by rw [hb3.block _ (by omega)]; exact HBX.out
    have hT3 : w3.heap[w.heap.size + 1]? = some (.cells #[.int .i64 na, .int .i64 nb] 25 (0, 0)) := by rw [hb3.block _ (by omega)]; exact HTW.out
    have HX3 : Hid (w3.heap[w.heap.size]? = some (.cells (riceC r rpa rpc rea rec) 24 (0, 0))) := hX3
    have HT3 : Hid (w3.heap[w.heap.size + 1]? = some (.cells #[.int .i64 na, .int .i64 nb] 25 (0, 0))) := hT3
    obtain ⟨y0, y1, y2, y3⟩ := RB.of_box hX3
    have t0 : w3.cell? ⟨w.heap.size + 1, 0, none⟩ = some (.int .i64 na) := by rw [cell_of_row _ _ _ _ _ _ hT3]; rfl
    have t1 : w3.cell? ⟨w.heap.size + 1, 1, none⟩ = some (.int .i64 nb) := by rw [cell_of_row _ _ _ _ _ _ hT3]; rfl
    clear kn hw3 hq3 hX3 hT3 hb3
    generalize hpp : wa'.heap.size = p at *
    have hap : ∀ (xo : Option Addr) (L : List Int), IntsAt w xo L → Apart p none xo L := fun xo L hx h0 b hb hf => by
      obtain ⟨bb, off, rfl, hc⟩ := hx.lies h0
      have e : bb = b := by simpa [blockOf] using hb
      have h2 : bb < w.heap.size := lt_cell (hc 0 h0)
      rcases hf with hf | hf
      · omega
      · cases hf
    have ke := encode_all r l HSX.out rpa rpc rea rec lo lc hlc hl0 p none [] Bits01.nil (by decide) w3 (HRc.out.below HB3.out) (HLi.out.below HB3.out) HW3.out (hap _ _ HRc.out.P) (hap _ _ HRc.out.E) (hap _ _ HLi.out) na nb
    rw [List.nil_append] at ke
    clear hap
    cases hR : encR r na nb l with
    | false =>
      have e1 : encN r na nb l = 60 := by unfold encN; rw [hR]; rfl
      have e2 : encL r na nb l = [] := by unfold encL; rw [hR]; rfl
      rw [e1, e2] at ke
      clear hR e1 e2
      go_wp2_with fail
      refine ke.mono ?_
      rintro e w4 ⟨rfl, ao4, hw4, hs4, hm4⟩
      have HB4 : Hid (Below w.heap.size w w4) := HB3.out.trans (foot_below hs4 HB3.out.size (by omega) (fun b hb => by cases hb))
      have kl := len_spec p w4 ao4 [] hw4
      clear ke hw4 hs4 hm4 y0 y1 y2 y3 t0 t1
      go_wp2_with fail
      refine kl.mono ?_
      rintro e w4' ⟨rfl, rfl⟩
      go_wp2_with fail
      refine (KAw.out w4').mono ?_
      rintro e w5 ⟨rfl, hb5⟩
      have HB5 : Hid (Below w.heap.size w w5) := HB4.out.trans (hb5.mono HB4.out.size)
      clear hb5 kl
      go_wp2_with fail
      go_ret
      exact ⟨rfl, HB5.out⟩
    | true =>
      have e1 : encN r na nb l = 0 := by unfold encN; rw [hR]; rfl
      have e2 : encL r na nb l = encB r na.toNat nb.toNat l := by unfold encL; rw [hR]; rfl
      obtain ⟨b', o', r', hb', hr', hk, hf⟩ := encR_yes hR
      have hfi := (fitB_iff r b' o' r' l).1 hf
      have hbk := enc_back r b' o' r' hk l hfi.1 hfi.2
      have hrm := encB_room r b' o' r' hk l hfi.1 h5
      have harg : argOk na nb := by
        rw [hb', hr']
        have := hk.cut.b1; have := hk.cut.b2; have := hk.cut.r2; have := hk.cut.rb
        unfold argOk; omega
      rw [e1, e2] at ke
      have hen : encB r na.toNat nb.toNat l = encB r b' r' l := by rw [hb', hr']; rfl
      rw [hen] at ke
      have hlP : r.P.length = 2 ^ o' := hk.lP
      clear hR e1 e2 hen
      have h01 := encB_01 r b' r' l
      rw [← hb', ← hr'] at hbk
      generalize hBB : encB r b' r' l = BB at *
      clear hBB hk hf hfi hb' hr' hlP
      have HBK : Hid (decP (textOf (pack BB)) 0 na nb = some (r, l, BB.length)) := hbk
      clear hbk
      go_wp2_with fail
      refine ke.mono ?_
      rintro e w4 ⟨rfl, ao4, hw4, hs4, hm4⟩
      have hfo : ∀ x, x < p → ¬ foot p none x := fun x hx hf => by
        rcases hf with hf | hf
        · omega
        · cases hf
      have HB4 : Hid (Below w.heap.size w w4) := HB3.out.trans (foot_below hs4 HB3.out.size (by omega) (fun b hb => by cases hb))
      have HX4 : Hid (w4.heap[w.heap.size]? = some (.cells (riceC r rpa rpc rea rec) 24 (0, 0))) := by show _ = _; rw [hs4.block _ (lt_of_block HX3.out) (hfo _ (by omega))]; exact HX3.out
      have HT4 : Hid (w4.heap[w.heap.size + 1]? = some (.cells #[.int .i64 na, .int .i64 nb] 25 (0, 0))) := by show _ = _; rw [hs4.block _ (lt_of_block HT3.out) (hfo _ (by omega))]; exact HT3.out
      have HW4 : Hid (WrB w4 p ao4 BB) := hw4
      have hp4 := hw4.lt
      have hao4 := hw4.blocks
      have kb := bytes_spec p w4 ao4 BB h01 (by omega) hw4
      have hsz : (textOf (pack BB)).size ≤ 1000000000000000000 := by rw [textOf_size, pack_length]; omega
      have ko := of_spec (textOf (pack BB)) hsz w4
      clear ke hw4 hs4 hm4 y0 y1 y2 y3 t0 t1 hfo
      go_wp2_with fail
      refine kb.mono ?_
      rintro e w4' ⟨rfl, rfl⟩
      go_wp2_with fail
      refine ko.mono ?_
      rintro e w5 ⟨rfl, hrd5, hb5⟩
      have HB5 : Hid (Below w.heap.size w w5) := HB4.out.trans (hb5.mono HB4.out.size)
      have HX5 : Hid (w5.heap[w.heap.size]? = some (.cells (riceC r rpa rpc rea rec) 24 (0, 0))) := by show _ = _; rw [hb5.block _ (lt_of_block HX4.out)]; exact HX4.out
      have hT5 : w5.heap[w.heap.size + 1]? = some (.cells #[.int .i64 na, .int .i64 nb] 25 (0, 0)) := by rw [hb5.block _ (lt_of_block HT4.out)]; exact HT4.out
      have t0 : w5.cell? ⟨w.heap.size + 1, 0, none⟩ = some (.int .i64 na) := by rw [cell_of_row _ _ _ _ _ _ hT5]; rfl
      have t1 : w5.cell? ⟨w.heap.size + 1, 1, none⟩ = some (.int .i64 nb) := by rw [cell_of_row _ _ _ _ _ _ hT5]; rfl
      have HW5 : Hid (WrB w5 p ao4 BB) := HW4.out.below hb5
      have hz4 := HB4.out.size
      have hxl := lt_of_block HX4.out
      have kd := decode_all w4'.heap.size (textOf (pack BB)) hsz 0 (by omega) na nb harg w5 hrd5
      rw [HBK.out] at kd
      clear kb ko hrd5 hb5 hT5 HX4 HT4
      generalize hqq : w4'.heap.size = q at *
      go_wp2_with fail
      refine kd.mono ?_
      rintro e w6 ⟨gl, gp, ge, rfl, hl6, hp6, he6, g1, g2, g3, hr6, ha6, hs6⟩
      have hno : ∀ x, x < q → ¬ only q x := fun x hx e => by unfold only at e; omega
      have HA7 : Hid (Below w6.heap.size w6 (w6.alloc (.cells (riceC r (some ⟨gp, 0, none⟩) r.P.length (some ⟨ge, 0, none⟩) r.E.length) 24))) := (Below.refl _ _).alloc (Nat.le_refl _) _
      have HB7 : Hid (Below w.heap.size w (w6.alloc (.cells (riceC r (some ⟨gp, 0, none⟩) r.P.length (some ⟨ge, 0, none⟩) r.E.length) 24))) := (HB5.out.trans (only_below hs6 HB5.out.size (by omega))).trans (HA7.out.mono (by have := hs6.size; have := HB5.out.size; omega))
      have HW7 : Hid (WrB (w6.alloc (.cells (riceC r (some ⟨gp, 0, none⟩) r.P.length (some ⟨ge, 0, none⟩) r.E.length) 24)) p ao4 BB) := (HW5.out.stays hs6 (hno _ (by omega)) (fun b hb => hno _ (by have := hao4 b hb; omega))).below HA7.out
      have HX7 : Hid ((w6.alloc (.cells (riceC r (some ⟨gp, 0, none⟩) r.P.length (some ⟨ge, 0, none⟩) r.E.length) 24)).heap[w.heap.size]? = some (.cells (riceC r rpa rpc rea rec) 24 (0, 0))) := by
        show _ = _
        have h6 : w6.heap[w.heap.size]? = some (.cells (riceC r rpa rpc rea rec) 24 (0, 0)) := by rw [hs6.block _ (lt_of_block HX5.out) (hno _ (by omega))]; exact HX5.out
        rw [HA7.out.block _ (lt_of_block h6)]; exact h6
      have HJ7 : Hid ((w6.alloc (.cells (riceC r (some ⟨gp, 0, none⟩) r.P.length (some ⟨ge, 0, none⟩) r.E.length) 24)).heap[w6.heap.size]? = some (.cells (riceC r (some ⟨gp, 0, none⟩) r.P.length (some ⟨ge, 0, none⟩) r.E.length) 24 (0, 0))) := heap_alloc_new _ _
      have HR7 : Hid (Rd (w6.alloc (.cells (riceC r (some ⟨gp, 0, none⟩) r.P.length (some ⟨ge, 0, none⟩) r.E.length) 24)) q (textOf (pack BB)) BB.length) := hr6.below HA7.out
      have HL7 : Hid (IntsBlk (w6.alloc (.cells (riceC r (some ⟨gp, 0, none⟩) r.P.length (some ⟨ge, 0, none⟩) r.E.length) 24)) gl l) := hl6.below HA7.out
      have HP7 : Hid (IntsBlk (w6.alloc (.cells (riceC r (some ⟨gp, 0, none⟩) r.P.length (some ⟨ge, 0, none⟩) r.E.length) 24)) gp r.P) := hp6.below HA7.out
      have HE7 : Hid (IntsBlk (w6.alloc (.cells (riceC r (some ⟨gp, 0, none⟩) r.P.length (some ⟨ge, 0, none⟩) r.E.length) 24)) ge r.E) := he6.below HA7.out
      clear kd hl6 hp6 he6 hr6 hs6 t0 t1 HB5 HX5 HW5 HA7 hno
      go_wp2_with fail
      generalize hw7 : w6.alloc _ = w7 at *
      generalize hk7 : w6.heap.size = k7 at *
      clear hw7 hk7
      have KI : Hid (Calls Try.prog 23 #[.slice lo l.length lc, .slice (some ⟨gl, 0, none⟩) l.length l.length] w7 fun e w' => e = .returned (.bool true) ∧ ∃ n, w' = w7.drewN n) := ints_same l lo (some ⟨gl, 0, none⟩) lc l.length w7 (HLi.out.below HB7.out) (HL7.out.ints (by have := HLi.out.len; omega) HLi.out.num)
      refine KI.out.mono ?_
      rintro e w8 ⟨rfl, n8, rfl⟩
      have HB8 : Hid (Below w7.heap.size w7 (w7.drewN n8)) := below_drewN _ _
      generalize w7.drewN n8 = w8 at *
      have hX8 : w8.heap[w.heap.size]? = some (.cells (riceC r rpa rpc rea rec) 24 (0, 0)) := by rw [HB8.out.block _ (lt_of_block HX7.out)]; exact HX7.out
      have hJ8 : w8.heap[k7]? = some (.cells (riceC r (some ⟨gp, 0, none⟩) r.P.length (some ⟨ge, 0, none⟩) r.E.length) 24 (0, 0)) := by rw [HB8.out.block _ (lt_of_block HJ7.out)]; exact HJ7.out
      obtain ⟨y0, y1, y2, y3⟩ := RB.of_box hX8
      have z0 : w8.cell? ⟨k7, 0, none⟩ = some (.int .i64 r.m) := by rw [cell_of_row _ _ _ _ _ _ hJ8]; rfl
      have z1 : w8.cell? ⟨k7, 1, none⟩ = some (.int .i64 r.o) := by rw [cell_of_row _ _ _ _ _ _ hJ8]; rfl
      have z2 : w8.cell? ⟨k7, 2, none⟩ = some (.slice (some ⟨gp, 0, none⟩) r.P.length r.P.length) := by rw [cell_of_row _ _ _ _ _ _ hJ8]; rfl
      have z3 : w8.cell? ⟨k7, 3, none⟩ = some (.slice (some ⟨ge, 0, none⟩) r.E.length r.E.length) := by rw [cell_of_row _ _ _ _ _ _ hJ8]; rfl
      have HBw8 : Hid (Below w.heap.size w w8) := HB7.out.trans (HB8.out.mono HB7.out.size)
      have ks := same_same r rpa rpc rea rec (some ⟨gp, 0, none⟩) r.P.length (some ⟨ge, 0, none⟩) r.E.length w8 (HRc.out.below HBw8.out) ⟨(HP7.out.below HB8.out).ints HRc.out.P.len HRc.out.P.num, (HE7.out.below HB8.out).ints HRc.out.E.len HRc.out.E.num, HRc.out.m1, HRc.out.m2, HRc.out.o1, HRc.out.o2⟩
      clear hX8 hJ8 KI
      go_wp2_with fail
      refine ks.mono ?_
      rintro e w9 ⟨rfl, hb9⟩
      have HB9 : Hid (Below w7.heap.size w7 w9) := HB8.out.trans (hb9.mono HB8.out.size)
      have ka := at_spec q (textOf (pack BB)) BB.length w9 (HR7.out.below HB9.out)
      have kl := len_spec p w9 ao4 BB (HW7.out.below HB9.out)
      clear hb9 ks y0 y1 y2 y3 z0 z1 z2 z3
      go_wp2_with fail
      refine ka.mono ?_
      rintro e w9' ⟨rfl, rfl⟩
      go_wp2_with fail
      refine kl.mono ?_
      rintro e w9'' ⟨rfl, rfl⟩
      go_wp2_with fail
      refine (KAw.out w9'').mono ?_
      rintro e w10 ⟨rfl, hb10⟩
      have HB10 : Hid (Below w.heap.size w w10) := (HB7.out.trans (HB9.out.mono HB7.out.size)).trans (hb10.mono (by have := HB7.out.size; have := HB9.out.size; omega))
      clear hb10 ka kl
      go_wp2_with fail
      go_ret
      exact ⟨rfl, HB10.out⟩


set_option maxRecDepth 100000 in
theorem lifted (os : Os) (started : os.Started) (H : Type) (enc : TypeId × Value → H) :
    ReturnsInHanded {} Try.checked os 5 .any (Rows.riceBackSpec.pre6 enc Try.prog Try.f5 Rows.riceBackRow.domain false) (Rows.riceBackSpec.post enc Try.prog Try.f5 false true false false) := by
  refine returnsInHanded_of_change_sized (C := Try.checked) own started (by kernel_rfl) Try.func5
    (ChangeSpec.witness6 (enc := enc) (C := Try.checked) false ⟨#[], #[.agg #[.int .i64 0, .int .i64 0, .slice none 0 0, .slice none 0 0], .agg #[.int .i64 0, .int .i64 0], .slice none 0 0], []⟩ 8 (by kernel_rfl) (by kernel_rfl) (by kernel_rfl) (by kernel_rfl)) ?_
  intro W base args ds gs before hval0 hW hcnd0 hsz0 hholds
  have hval : ∀ (j : Nat) t v, Try.f5.params[j]? = some t → args[j]? = some v → Value.okWide Try.prog W .any base t v := hval0
  have hsz : (DataW.weightsEach Try.prog (Try.f5.params.toList ++ Rows.riceBackSpec.plain.varTypes Try.prog) (ds ++ gs)).all (· ≤ reachBytes) = true := hsz0
  have hW' := hW
  obtain ⟨p, q, hA0, hV, rfl, hfz, hnd⟩ := hW
  have hA : DataW.TrodAll enc Try.prog W 0 (fun _ => true) true Try.f5.params.toList args.toList ds p := hA0
  rw [Try.params5] at hA hval hsz
  obtain ⟨v0, vs0, d0, ds0, p0, q0, hargs, rfl, rfl, h0, r0⟩ := trodAll_cons hA
  obtain ⟨v1, vs1, d1, ds1, p1, q1, rfl, rfl, rfl, h1, r1⟩ := trodAll_cons r0
  obtain ⟨v2, vs2, d2, ds2, p2, q2, rfl, rfl, rfl, h2, r2⟩ := trodAll_cons r1
  obtain ⟨rfl, rfl, rfl⟩ := trodAll_nil r2
  obtain rfl : args = #[v0, v1, v2] := by cases args; simp_all
  obtain ⟨rfl, rfl⟩ := trodVars_none hV
  have hall := List.all_eq_true.1 hsz
  have hw0 : ∀ n ∈ d0.weights Try.prog 24, n ≤ reachBytes := fun n hn => by
    have := hall n (List.mem_append.2 (.inl hn))
    exact of_decide_eq_true this
  have k0 := h0
  have lt0 : ∀ x ∈ p0, x.block < W.heap.size := by obtain ⟨m, hm⟩ := k0; exact DataW.trod_lt m _ _ _ hm
  obtain ⟨x0, pa0, pc0, ea0, ec0, rfl, hr0⟩ := open_rice (hval 0 24 v0 rfl rfl) h0 hw0
  have k1 := h1
  have lt1 : ∀ x ∈ p1, x.block < W.heap.size := by obtain ⟨m, hm⟩ := k1; exact DataW.trod_lt m _ _ _ hm
  obtain ⟨xa1, xb1, rfl, ⟨ta1, tb1⟩, ⟨tc1, td1⟩⟩ := open_two (hval 1 25 v1 rfl rfl) h1
  have hw2 : ∀ n ∈ d2.weights Try.prog 22, n ≤ reachBytes := fun n hn => by
    have := hall n (List.mem_append.2 (.inr (List.mem_append.2 (.inr (List.mem_append.2 (.inl hn))))))
    exact of_decide_eq_true this
  have k2 := h2
  have lt2 : ∀ x ∈ p2, x.block < W.heap.size := by obtain ⟨m, hm⟩ := k2; exact DataW.trod_lt m _ _ _ hm
  obtain ⟨o2, c2, x2, rfl, hr2, hc2, hn2⟩ := open_list (hval 2 22 v2 rfl rfl) h2 hw2
  clear hA0 hval0
  refine (walk x0 pa0 pc0 ea0 ec0 xa1 xb1 ta1 tb1 tc1 td1 x2 o2 c2 hc2 hn2 W hr0 hr2).mono fun e W' ⟨he, bel⟩ => ?_
  subst he
  exact ⟨_, rfl, _, _, _, [], _, [], hW', trodAll_mk1 (shut_bool Try.underlying4 _), (trodAll_cons_mk (Below.trod laidOut (by kernel_rfl) (of_decide_eq_true (by kernel_rfl)) k0 bel lt0) (trodAll_cons_mk (Below.trod laidOut (by kernel_rfl) (of_decide_eq_true (by kernel_rfl)) k1 bel lt1) (trodAll_cons_mk (Below.trod laidOut (by kernel_rfl) (of_decide_eq_true (by kernel_rfl)) k2 bel lt2) trodAll_mk0))), rfl, bel.frame _, fun h => by cases h⟩

theorem over : Rows.riceBackRow.holds Try.pinned (OpenSpec.ofChange Rows.riceBackSpec) :=
  OpenClaim.holds_of_wide 5 Try.f5 rfl rfl rfl rfl rfl rfl rfl ⟨rfl, rfl, rfl, rfl, rfl⟩ rfl rfl rfl rfl rfl (by kernel_rfl) Try.func5 (by kernel_rfl)
    (of_decide_eq_true (by kernel_rfl)) (by unfold Func.isWrapper; first | (rw [if_pos (by decide +kernel)]; kernel_rfl) | (rw [if_neg (by decide +kernel)]; exact ⟨rfl, rfl⟩))
    (fun os started H enc _ => lifted os started H enc)

end Go.Proofs.Ytdlakbgcflekkaa.riceBack
namespace Go.Proofs.Ytdlakbgcflekkaa
theorem riceBack_holds : Rows.RiceBackSaid := riceBack.over
#print axioms riceBack_holds
end Go.Proofs.Ytdlakbgcflekkaa

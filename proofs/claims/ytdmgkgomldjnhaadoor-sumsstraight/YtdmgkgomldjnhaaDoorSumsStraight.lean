/-
  Own text: for any two texts, cut to the shorter one's length, the sums of both and of both laid upon each other byte by byte hold together (Crc8, Crc16, Ogg), and the chapter's examples hold. Laid: the package's constant table of rules starts as the program's text lays it (the card ties it).
-/
import Derived.Test.YtdmgkgomldjnhaaDoorRowtext
import Derived.WalkKit
import Derived.ProofKit
import Derived.OpenShut
import Derived.ShutString
import Derived.ChangeOld
import Derived.Below
import Derived.SizedLaws
namespace Go.Proofs.YtdmgkgomldjnhaaDoor.sumsStraight
open Go.ChangeShapes Go.WideShapes Go.ChangeAt Go.RowKit
open Go.ChangeMaps (open_string shut_string)
set_option linter.unusedSimpArgs false
set_option linter.unusedVariables false

theorem bytesOf_extract (s : ByteArray) (a b : Nat) : bytesOf (s.extract a b) = ((bytesOf s).take b).drop a := by
  unfold bytesOf
  rw [ByteArray.data_extract, Array.toList_extract, List.extract_eq_drop_take', List.map_drop, List.map_take]

/-- Both laid upon each other. -/
def upon (s t : ByteArray) (j : Nat) : Nat := (bytesOf s).getD j 0 ^^^ (bytesOf t).getD j 0

theorem upon_lt (s t : ByteArray) (j : Nat) : upon s t j < 256 := by
  have h : ∀ (s : ByteArray), (bytesOf s).getD j 0 < 256 := by
    intro s
    rw [List.getD_eq_getElem?_getD]
    cases hx : (bytesOf s)[j]? with
    | none => simp
    | some x => exact bytesOf_lt s x (List.mem_of_getElem? hx)
  exact Nat.xor_lt_two_pow (n := 8) (h s) (h t)

theorem upon_at (s t : ByteArray) (i : Nat) (hs : i < s.size) (ht : i < t.size) : upon s t i = (s[i]'hs).toNat ^^^ (t[i]'ht).toNat := by
  unfold upon
  rw [List.getD_eq_getElem?_getD, List.getD_eq_getElem?_getD, List.getElem?_eq_getElem (by rw [bytesOf_length]; exact hs), List.getElem?_eq_getElem (by rw [bytesOf_length]; exact ht), bytesOf_get s i hs, bytesOf_get t i ht]
  rfl

theorem upon_zip (s t : ByteArray) (n : Nat) (hs : n ≤ s.size) (ht : n ≤ t.size) : bytesOf (textOf ((List.range n).map (upon s t))) = List.zipWith (· ^^^ ·) (bytesOf (s.extract 0 n)) (bytesOf (t.extract 0 n)) := by
  rw [bytesOf_textOf _ (by intro b hb; obtain ⟨j, _, rfl⟩ := List.mem_map.1 hb; exact upon_lt s t j), bytesOf_extract, bytesOf_extract, List.drop_zero, List.drop_zero]
  apply List.ext_getElem?
  intro j
  by_cases hj : j < n
  · have h1 : j < (bytesOf s).length := by rw [bytesOf_length]; omega
    have h2 : j < (bytesOf t).length := by rw [bytesOf_length]; omega
    rw [List.getElem?_zipWith, List.getElem?_take, List.getElem?_take, if_pos hj, if_pos hj, List.getElem?_eq_getElem h1, List.getElem?_eq_getElem h2]
    simp [hj, upon, List.getD_eq_getElem?_getD, List.getElem?_eq_getElem h1, List.getElem?_eq_getElem h2]
  · rw [List.getElem?_eq_none (by simp; omega), List.getElem?_eq_none (by rw [List.length_zipWith, List.length_take]; omega)]

theorem straight {w : Nat} (p : BitVec w) (x s t : ByteArray) (h : bytesOf x = List.zipWith (· ^^^ ·) (bytesOf s) (bytesOf t)) (hl : s.size = t.size) :
    (crcL p 0#w (bytesOf x)).toNat = (crcL p 0#w (bytesOf s)).toNat ^^^ (crcL p 0#w (bytesOf t)).toNat := by
  have := crcL_xor p (bytesOf s) (bytesOf t) 0#w 0#w (by rw [bytesOf_length, bytesOf_length]; exact hl)
  rw [BitVec.xor_self] at this
  rw [h, this, BitVec.toNat_xor]

theorem size_extract (s : ByteArray) (n : Nat) (h : n ≤ s.size) : (s.extract 0 n).size = n := by
  rw [ByteArray.size_extract]
  omega

set_option maxRecDepth 20000 in
set_option maxHeartbeats 3200000 in
theorem walk (s : ByteArray) (hs : s.size ≤ 140737488351232) (t : ByteArray) (ht : t.size ≤ 140737488351232) (w : World) (hR : RulesAt w) :
    Calls Tryd.prog 7 #[.string s, .string t] w fun e w' => e = .returned (.bool true) ∧ Below w.heap.size w w' := by
  have H0 : Hid (RulesAt w) := hR
  have B0 : Hid (Below w.heap.size w w) := Below.refl _ _
  clear hR
  obtain ⟨n, hn, hns, hnt⟩ : ∃ n : Nat, n = min s.size t.size ∧ n ≤ s.size ∧ n ≤ t.size := ⟨_, rfl, Nat.min_le_left _ _, Nat.min_le_right _ _⟩
  have hmk := made_run n (by omega)
  have hmin : min (s.size : Int) (t.size : Int) = (n : Int) := by omega
  clear hn
  have hxs : (textOf ((List.range n).map (upon s t))).size = n := by rw [textOf_size]; simp
  have z1 := size_extract s n hns
  have z2 := size_extract t n hnt
  have hzip := upon_zip s t n hns hnt
  have k1 := fun w hR => crc8_spec (textOf ((List.range n).map (upon s t))) (by omega) w hR
  have k2 := fun w hR => crc8_spec (s.extract 0 n) (by omega) w hR
  have k3 := fun w hR => crc8_spec (t.extract 0 n) (by omega) w hR
  have k4 := fun w hR => crc16_spec (textOf ((List.range n).map (upon s t))) (by omega) w hR
  have k5 := fun w hR => crc16_spec (s.extract 0 n) (by omega) w hR
  have k6 := fun w hR => crc16_spec (t.extract 0 n) (by omega) w hR
  have k7 := fun w hR => ogg_spec (textOf ((List.range n).map (upon s t))) (by omega) w hR
  have k8 := fun w hR => ogg_spec (s.extract 0 n) (by omega) w hR
  have k9 := fun w hR => ogg_spec (t.extract 0 n) (by omega) w hR
  have q1 : bits .xor .i64 (c8 (s.extract 0 n) : Int) (c8 (t.extract 0 n) : Int) = (c8 (textOf ((List.range n).map (upon s t))) : Int) := by
    have l1 := c8_lt (s.extract 0 n)
    have l2 := c8_lt (t.extract 0 n)
    rw [i64_xor_nat _ _ (by omega) (by omega)]
    unfold c8
    rw [straight p8 _ _ _ hzip (by omega)]
  have q2 : bits .xor .i64 (c16 (s.extract 0 n) : Int) (c16 (t.extract 0 n) : Int) = (c16 (textOf ((List.range n).map (upon s t))) : Int) := by
    have l1 := c16_lt (s.extract 0 n)
    have l2 := c16_lt (t.extract 0 n)
    rw [i64_xor_nat _ _ (by omega) (by omega)]
    unfold c16
    rw [straight p16 _ _ _ hzip (by omega)]
  have q3 : bits .xor .i64 (c32 (s.extract 0 n) : Int) (c32 (t.extract 0 n) : Int) = (c32 (textOf ((List.range n).map (upon s t))) : Int) := by
    have l1 := c32_lt (s.extract 0 n)
    have l2 := c32_lt (t.extract 0 n)
    rw [i64_xor_nat _ _ (by omega) (by omega)]
    unfold c32
    rw [straight p32 _ _ _ hzip (by omega)]
  generalize c8 (textOf ((List.range n).map (upon s t))) = a1 at *
  generalize c8 (s.extract 0 n) = a2 at *
  generalize c8 (t.extract 0 n) = a3 at *
  generalize c16 (textOf ((List.range n).map (upon s t))) = a4 at *
  generalize c16 (s.extract 0 n) = a5 at *
  generalize c16 (t.extract 0 n) = a6 at *
  generalize c32 (textOf ((List.range n).map (upon s t))) = a7 at *
  generalize c32 (s.extract 0 n) = a8 at *
  generalize c32 (t.extract 0 n) = a9 at *
  clear hxs z1 z2 hzip
  go_enter Tryd.func7, Tryd.ntmps7
  go_wp2_with fail
  have hrow := World.rowIs_made w (.int .u8 0) n 5
  have hbel : Below w.heap.size w (w.alloc (.cells (madeCells #[.int .u8 0] n) 5)) := (Below.refl _ _).alloc (Nat.le_refl _) _
  go_loopw [7] (fun u wr => ∃ (i : Nat), i ≤ n ∧ u = .int .i64 (i : Int) ∧ wr.rowIs w.heap.size 5 n (fun j => .int .u8 ((if j < i then upon s t j else 0 : Nat) : Int)) ∧ Below w.heap.size w wr) (fun u _ => n - (intOf u).toNat)
  case atStart => exact ⟨0, Nat.zero_le _, rfl, hrow.congr (fun i _ => by simp), hbel⟩
  case round =>
    clear hrow hbel
    obtain ⟨i, hi, rfl, hr, hb⟩ := hrel
    by_cases hlt : i < n
    · have hsi : i < s.size := by omega
      have hti : i < t.size := by omega
      have hc := hr.cell hlt
      have hf := hr.frozen i
      have hx : bits .xor .u8 ((s[i]'hsi).toNat : Int) ((t[i]'hti).toNat : Int) = (upon s t i : Int) := by
        rw [upon_at s t i hsi hti, u8_xor_nat _ _ (UInt8.toNat_lt _) (UInt8.toNat_lt _)]
      have HR : Hid (wr.rowIs w.heap.size 5 n (fun j => .int .u8 ((if j < i then upon s t j else 0 : Nat) : Int))) := hr
      have HB : Hid (Below w.heap.size w wr) := hb
      clear hr hb
      go_wp2_with fail
      go_region
      go_wp2
      go_roundw
      case rel =>
        refine ⟨i + 1, by omega, by go_num, ?_, (HB.out.setCell (by simp) _).drew⟩
        refine World.rowIs.congr (World.rowIs.drew (HR.out.set i _)) (fun j hj => ?_)
        by_cases e : j = i
        · subst e; simp
        · simp only [e, if_false]
          congr 3
          by_cases h : j < i
          · simp [h, show j < i + 1 by omega]
          · simp [h, show ¬ j < i + 1 by omega]
      case measure => simp [intOf]; omega
    · have hie : i = n := by omega
      have hr2 : wr.rowIs w.heap.size 5 n (fun j => .int .u8 (upon s t j : Int)) := hr.congr (fun j hj => by simp [hie, hj])
      have hcv := conv_row (cap := n) hr2
      have H1 : Hid (RulesAt wr) := H0.out.below hb
      have B1 : Hid (Below w.heap.size w wr) := hb
      clear hr hr2 hb hie
      go_wp2_with fail
      go_quiet (fail)
      go_wp2_with fail
      generalize hwd : wr.drewN nq = w2
      have hB2 : Below wr.heap.size wr w2 := by
        rw [← hwd]
        exact Below.drewN_right (Below.refl _ _) nq
      have H2 : Hid (RulesAt w2) := H1.out.below hB2
      have B2 : Hid (Below w.heap.size w w2) := H0.out.two B1.out hB2
      clear hB2 hwd
      refine (k1 w2 H2.out).mono ?_
      rintro e w3 ⟨rfl, hB⟩
      have H3 : Hid (RulesAt w3) := H2.out.below hB
      have B3 : Hid (Below w.heap.size w w3) := H0.out.two B2.out hB
      clear hB
      go_wp2_with fail
      refine (k2 w3 H3.out).mono ?_
      rintro e w4 ⟨rfl, hB⟩
      have H4 : Hid (RulesAt w4) := H3.out.below hB
      have B4 : Hid (Below w.heap.size w w4) := H0.out.two B3.out hB
      clear hB
      go_wp2_with fail
      refine (k3 w4 H4.out).mono ?_
      rintro e w5 ⟨rfl, hB⟩
      have H5 : Hid (RulesAt w5) := H4.out.below hB
      have B5 : Hid (Below w.heap.size w w5) := H0.out.two B4.out hB
      clear hB
      go_wp2_with fail
      refine (k4 w5 H5.out).mono ?_
      rintro e w6 ⟨rfl, hB⟩
      have H6 : Hid (RulesAt w6) := H5.out.below hB
      have B6 : Hid (Below w.heap.size w w6) := H0.out.two B5.out hB
      clear hB
      go_wp2_with fail
      refine (k5 w6 H6.out).mono ?_
      rintro e w7 ⟨rfl, hB⟩
      have H7 : Hid (RulesAt w7) := H6.out.below hB
      have B7 : Hid (Below w.heap.size w w7) := H0.out.two B6.out hB
      clear hB
      go_wp2_with fail
      refine (k6 w7 H7.out).mono ?_
      rintro e w8 ⟨rfl, hB⟩
      have H8 : Hid (RulesAt w8) := H7.out.below hB
      have B8 : Hid (Below w.heap.size w w8) := H0.out.two B7.out hB
      clear hB
      go_wp2_with fail
      refine (k7 w8 H8.out).mono ?_
      rintro e w9 ⟨rfl, hB⟩
      have H9 : Hid (RulesAt w9) := H8.out.below hB
      have B9 : Hid (Below w.heap.size w w9) := H0.out.two B8.out hB
      clear hB
      go_wp2_with fail
      refine (k8 w9 H9.out).mono ?_
      rintro e w10 ⟨rfl, hB⟩
      have H10 : Hid (RulesAt w10) := H9.out.below hB
      have B10 : Hid (Below w.heap.size w w10) := H0.out.two B9.out hB
      clear hB
      go_wp2_with fail
      refine (k9 w10 H10.out).mono ?_
      rintro e w11 ⟨rfl, hB⟩
      have H11 : Hid (RulesAt w11) := H10.out.below hB
      have B11 : Hid (Below w.heap.size w w11) := H0.out.two B10.out hB
      clear hB
      go_wp2_with fail
      refine (awake_spec w11 H11.out).mono ?_
      rintro e w12 ⟨rfl, hB⟩
      have H12 : Hid (RulesAt w12) := H11.out.below hB
      have B12 : Hid (Below w.heap.size w w12) := H0.out.two B11.out hB
      clear hB
      go_wp2
      go_ret
      exact ⟨rfl, B12.out⟩

theorem door_met (os : Os) (args : Array Value) : laidMetH Tryd.prog Rows.sumsStraightRow.laid ((World.doorLaid Tryd.prog 400 os).forCall (fun _ _ => 0) ⟨#[], args, []⟩).memory :=
  laidMetH_of_parts3 (fuel := 8) (laidMet_of_run' 8 (by kernel_rfl) (by kernel_rfl)) (by kernel_rfl) (by kernel_rfl)

set_option maxRecDepth 100000 in
theorem lifted (os : Os) (started : os.Started) (H : Type) (enc : TypeId × Value → H) :
    ReturnsInHanded {} Tryd.checked os 7 .any (fun w args => (Rows.sumsStraightSpec.pre enc Tryd.prog Tryd.f7 [] false w args ∧ laidMetH Tryd.prog Rows.sumsStraightRow.laid w) ∧ sizedMet enc Tryd.prog Tryd.f7 (OpenSpec.ofChange Rows.sumsStraightSpec) false w args)
      (Rows.sumsStraightSpec.post enc Tryd.prog Tryd.f7 false true false false) := by
  refine returnsInHanded_of_change_and (C := Tryd.checked) (X := fun w _ => laidMetH Tryd.prog Rows.sumsStraightRow.laid w) (fun _ _ _ hh h => h.of_heap hh) own started (by kernel_rfl) Tryd.func7
    (ChangeSpec.witness_shaped (enc := enc) (C := Tryd.checked) (os := os) (X := fun w _ => laidMetH Tryd.prog Rows.sumsStraightRow.laid w) false (World.doorLaid Tryd.prog 400 os) #[.string ByteArray.empty, .string ByteArray.empty] 8 rfl (World.shaped_of_RefB (by kernel_rfl) (by kernel_rfl)) (by kernel_rfl) (by kernel_rfl) (by kernel_rfl) (door_met os _)) ?_
  intro W base args ds gs before hval0 hW _ hsz0 hL _
  have hval : ∀ (j : Nat) t v, Tryd.f7.params[j]? = some t → args[j]? = some v → Value.okWide Tryd.prog W .any base t v := hval0
  have hsz : (DataW.weightsEach Tryd.prog (Tryd.f7.params.toList ++ Rows.sumsStraightSpec.plain.varTypes Tryd.prog) (ds ++ gs)).all (· ≤ reachBytes) = true := hsz0
  have hW' := hW
  obtain ⟨p, q, hA0, hV, rfl, hfz, hnd⟩ := hW
  have hA : DataW.TrodAll enc Tryd.prog W 0 (fun _ => true) true Tryd.f7.params.toList args.toList ds p := hA0
  rw [Tryd.params7] at hA hval hsz
  obtain ⟨v0, vs0, d0, ds0, p0, q0, hargs, rfl, rfl, h0, r0⟩ := trodAll_cons hA
  obtain ⟨v1, vs1, d1, ds1, p1, q1, rfl, rfl, rfl, h1, r1⟩ := trodAll_cons r0
  obtain ⟨rfl, rfl, rfl⟩ := trodAll_nil r1
  obtain rfl : args = #[v0, v1] := by cases args; simp_all
  obtain ⟨rfl, rfl⟩ := trodVars_none hV
  obtain ⟨s0, rfl, rfl, rfl, hs0⟩ := open_string Tryd.underlying9 (hval 0 9 v0 rfl rfl) h0
  have hq0 := sized_string hsz (j := 0) (t := 9) rfl rfl
  have hz0 : s0.size ≤ 140737488351232 := by
    have e : s0.data.toList.length = s0.size := by rw [Array.length_toList]; rfl
    rw [e] at hq0
    simp only [reachBytes] at hq0
    omega
  obtain ⟨s1, rfl, rfl, rfl, hs1⟩ := open_string Tryd.underlying9 (hval 1 9 v1 rfl rfl) h1
  have hq1 := sized_string hsz (j := 1) (t := 9) rfl rfl
  have hz1 : s1.size ≤ 140737488351232 := by
    have e : s1.data.toList.length = s1.size := by rw [Array.length_toList]; rfl
    rw [e] at hq1
    simp only [reachBytes] at hq1
    omega
  clear hA0 hval0
  refine (walk s0 hz0 s1 hz1 W (rules_of_laid hL)).mono fun e W' ⟨he, bel⟩ => ?_
  subst he
  exact ⟨_, rfl, _, _, _, [], _, [], hW', trodAll_mk1 (shut_bool Tryd.underlying4 _), (trodAll_cons_mk (shut_string Tryd.underlying9 hs0) (trodAll_cons_mk (shut_string Tryd.underlying9 hs1) trodAll_mk0)), rfl, bel.frame _, fun h => by cases h⟩

theorem said : Rows.SumsStraightSaid :=
  OpenClaim.holds_of_wide 7 Tryd.f7 rfl rfl rfl rfl rfl rfl rfl ⟨rfl, rfl, rfl, rfl, rfl⟩ rfl rfl rfl rfl rfl (by kernel_rfl) Tryd.func7 (by kernel_rfl)
    (of_decide_eq_true (by kernel_rfl)) (by unfold Func.isWrapper; first | (rw [if_pos (by decide +kernel)]; kernel_rfl) | (rw [if_neg (by decide +kernel)]; exact ⟨rfl, rfl⟩))
    (fun os started H enc _ => lifted os started H enc)

/-- No parameter wants a stand-in; the program's own looks are off. -/
theorem plain (f : FuncId) (fn : Func) (hf : Tryd.pinned.checked.prog.funcNamed Rows.sumsStraightRow.func = some f) (hfn : Tryd.pinned.checked.prog.funcs[f]? = some fn) :
    false = Tryd.pinned.checked.prog.looks [] ∧ ∀ (j : Nat) t, fn.params[j]? = some t → Tryd.pinned.checked.prog.wantsStandIn t = false := by
  obtain rfl : f = 7 := Option.some.inj ((show Tryd.prog.funcNamed Rows.sumsStraightRow.func = some 7 by kernel_rfl).symm.trans hf) |>.symm
  obtain rfl : fn = Tryd.f7 := (Option.some.inj (Tryd.func7.symm.trans hfn)).symm
  refine ⟨by kernel_rfl, fun j t ht => ?_⟩
  rw [Tryd.params7] at ht
  have hm : t = 9 := by
    have := Array.mem_of_getElem? ht
    simp at this
    omega
  rcases hm with rfl
  · exact (show Tryd.prog.wantsStandIn 9 = false by kernel_rfl)

theorem card : Rows.SumsStraightCardSaid :=
  Claim7.holds_tied_plain_at .later [] _ _ _ _ said (fun _ h => by cases h) (by kernel_rfl) (fun _ h => by cases h) sumsStraight_row_tie rfl ⟨rfl, rfl⟩ (by kernel_rfl) rfl plain (by kernel_rfl)

end Go.Proofs.YtdmgkgomldjnhaaDoor.sumsStraight
namespace Go.Proofs.YtdmgkgomldjnhaaDoor
theorem sumsStraight_card : Rows.SumsStraightCardSaid := sumsStraight.card
#print axioms sumsStraight_card
end Go.Proofs.YtdmgkgomldjnhaaDoor

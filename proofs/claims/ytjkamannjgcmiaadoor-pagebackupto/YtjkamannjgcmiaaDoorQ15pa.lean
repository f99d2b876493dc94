/- Own text: the walk of packetsOf. -/
import Derived.Test.YtjkamannjgcmiaaDoorG33x
import Derived.Test.YtjkamannjgcmiaaDoorR15prs
import Derived.Test.YtjkamannjgcmiaaDoorR15lay
namespace Go.Proofs.YtjkamannjgcmiaaDoor
open Go.RowKit
set_option linter.unusedSimpArgs false
set_option linter.unusedVariables false

/-- What the laces of sheets cut. -/
def cutS (X : List Sh) : List (List Nat) × Bool × List Nat := X.foldl (fun st y => cutL (natL y.p.la) (bytesOf y.b) st.1 st.2.1 st.2.2) ([], false, [])
theorem cutS_snoc (X : List Sh) (y : Sh) : cutS (X ++ [y]) = cutL (natL y.p.la) (bytesOf y.b) (cutS X).1 (cutS X).2.1 (cutS X).2.2 := by unfold cutS; rw [List.foldl_append]; rfl
/-- A sheet that was read. -/
abbrev fitS (y : Sh) : Prop := lacOk y.p.la ∧ (natL y.p.la).sum = y.b.size ∧ y.p.la.length ≤ 255
theorem own_strs3 {w : World} {B : Nat} {v : Value} {K : List ByteArray} (h : w.ownsRow B 9 1 v K.length (K.map .string)) : ∃ ao cap, v = .slice ao K.length cap ∧ StrsAt w ao K ∧ K.length ≤ cap ∧ (ao = none → cap = 0) := by
  obtain ⟨ao, cap, e, _, hle, hno, hat⟩ := owns_shape h
  refine ⟨ao, cap, e, ⟨fun h0 => ?_⟩, hle, fun q => (hno q).2⟩
  obtain ⟨g, c, e2⟩ := owns_some h h0
  rw [e] at e2
  injection e2 with e3 e4 e5
  subst e3
  refine ⟨g, 0, rfl, fun i t hi => ?_⟩
  have hil := (List.getElem?_eq_some_iff.1 hi).1
  rw [e] at h
  rw [Nat.zero_add, h.cellAt i (by omega), List.getElem?_map, hi]
  rfl
attribute [local go_sem] Oper.semAt_some
set_option maxRecDepth 20000 in
set_option maxHeartbeats 3200000 in
theorem j_packetsOf (w : World) (v : Value) (L : List SP) (h : ShsAt w v L) (hn : L.length ≤ 65536) (hf : ∀ y ∈ L, fitS y.1) : Calls Tryd.prog 25 #[v] w fun e w' => (∃ ao cap, e = .returned (.slice ao (cutS (L.map Prod.fst)).1.length cap) ∧ StrsAt w' ao ((cutS (L.map Prod.fst)).1.map textOf) ∧ (cutS (L.map Prod.fst)).1.length ≤ cap ∧ (ao = none → cap = 0)) ∧ Below w.heap.size w w' := by
  obtain ⟨B, ho, hp⟩ := h
  obtain ⟨av, cv, ev⟩ := owns_sl ho
  subst ev
  have HO := hid ho
  have HP := hid hp
  have HFT := hid hf
  obtain ⟨iS, hS0, hS1, hS2, hS3⟩ := info_parts5 info9
  have HIS : Hid (Tryd.prog.info? 9 = some iS ∧ iS.zero = some (.string ⟨#[]⟩) ∧ iS.size = 1 ∧ iS.bytes = 16) := ⟨hS0, hS1, hS2, hS3⟩
  have HS0 : Hid (PkQ w w.heap.size (w.alloc (.cells #[.pointer none, noS] 81)) [] noS ⟨#[]⟩) := ⟨World.ownsRow_nil _ _ _ _, BUI.new w (Nat.le_refl _), below_new _ _⟩
  clear hS0 hS1 hS2 hS3 ho hp hf
  go_enter Tryd.func25, Tryd.ntmps25
  go_upto_region 3 with fail
  generalize w.alloc (.cells #[.pointer none, noS] 81) = w1 at *
  go_wp2_with fail
  go_loopw [3, 12] (fun s3 s12 wr => ∃ (i : Nat) (K : List ByteArray) (op : Bool) (hd : ByteArray), i ≤ L.length ∧ s12 = .int .i64 (i : Int) ∧ PkQ w w.heap.size wr K s3 hd ∧ cutS ((L.take i).map Prod.fst) = (K.map bytesOf, op, bytesOf hd) ∧ K.length ≤ 255 * i ∧ hd.size ≤ 65025 * i) (fun _ s12 _ => L.length - (intOf s12).toNat)
  case atStart => exact ⟨0, [], false, ⟨#[]⟩, Nat.zero_le _, rfl, HS0.out, rfl, Nat.le_refl _, Nat.le_refl _⟩
  case round =>
    clear HS0
    obtain ⟨i, K, op, hd, hi, rfl, hq, hcu, hkl, hhs⟩ := hrel
    obtain ⟨a3, k3, e3⟩ := owns_sl hq.own
    subst e3
    have HQ := hid hq
    have HCU := hid hcu
    clear hq hcu
    by_cases hlt : i < L.length
    · obtain ⟨z, hz⟩ : ∃ z, L[i]? = some z := ⟨_, List.getElem?_eq_getElem hlt⟩
      obtain ⟨g, cg, eg, hc⟩ := sh_at HO.out i z hz
      injection eg with eg1 eg2 eg3
      subst eg1
      have hc := hc wr HQ.out.bl
      obtain ⟨hf1, hf2, hf3⟩ := HFT.out z (List.mem_of_getElem? hz)
      have HPA := hid (HP.out z (List.mem_of_getElem? hz)).la
      obtain ⟨lx, hlx⟩ : ∃ lx, lx = natL z.1.p.la := ⟨_, rfl⟩
      have hll : z.1.p.la.length = lx.length := by rw [hlx, natL_length]
      have HLX : Hid ((∀ j, j < lx.length → z.1.p.la.getD j 0 = (lx.getD j 0 : Int)) ∧ (∀ j, j < lx.length → lx.getD j 0 ≤ 255)) := by
        have hk : ∀ j, j < lx.length → z.1.p.la.getD j 0 = (lx.getD j 0 : Int) ∧ lx.getD j 0 ≤ 255 := fun j hj => by
          have h1 := lac_get z.1.p.la hf1 j (by omega)
          have h2 : lx.getD j 0 = (z.1.p.la.getD j 0).toNat := by
            rw [hlx, List.getD_eq_getElem?_getD, List.getD_eq_getElem?_getD]
            unfold natL
            rw [List.getElem?_map, List.getElem?_eq_getElem (by omega)]
            rfl
          omega
        exact ⟨fun j hj => (hk j hj).1, fun j hj => (hk j hj).2⟩
      have HNX : Hid (∀ (K2 : List ByteArray) (op2 : Bool) (hd2 : ByteArray), cutL lx (bytesOf z.1.b) (K.map bytesOf) op (bytesOf hd) = (K2.map bytesOf, op2, bytesOf hd2) → cutS ((L.take (i + 1)).map Prod.fst) = (K2.map bytesOf, op2, bytesOf hd2)) := fun K2 op2 hd2 he => by
        rw [List.take_add_one, hz, Option.toList_some, List.map_append, List.map_singleton, cutS_snoc, HCU.out, ← hlx]
        exact he
      have HCI : Hid (CI lx (bytesOf z.1.b) K op hd 0 K op hd z.1.b) := ⟨rfl, by rw [List.drop_zero, hlx]; exact hf2.symm⟩
      rw [← hlx] at hf2
      clear HCU hf1 hz eg2 eg3 hlx
      obtain ⟨⟨⟨fl, se, sq, gr, la⟩, bd⟩, ao, c⟩ := z
      dsimp only at *
      have c0 : wr.cell? ⟨g, i * 6, none⟩ = some (.int .i64 fl) := hc 0 _ rfl
      have c1 := hc 1 _ rfl
      have c2 := hc 2 _ rfl
      have c3 := hc 3 _ rfl
      have c4 := hc 4 _ rfl
      have c5 := hc 5 _ rfl
      have HX : Hid (Box (wr.alloc (.cells #[.int .i64 fl, .int .i64 se, .int .i64 sq, .int .i64 gr, .slice ao lx.length c, .string bd] 74)) wr.heap.size #[.int .i64 fl, .int .i64 se, .int .i64 sq, .int .i64 gr, .slice ao lx.length c, .string bd] 74 ∧ PkQ w w.heap.size (wr.alloc (.cells #[.int .i64 fl, .int .i64 se, .int .i64 sq, .int .i64 gr, .slice ao lx.length c, .string bd] 74)) K (.slice a3 K.length k3) hd) := ⟨Box.new _ _ _, HQ.out.low (below_new _ _)⟩
      clear hc HQ
      go_upto_region 6 with fail
      generalize wr.alloc (.cells #[.int .i64 fl, .int .i64 se, .int .i64 sq, .int .i64 gr, .slice ao lx.length c, .string bd] 74) = wx at *
      have d4 := HX.out.1.c 4 _ rfl
      have d5 := HX.out.1.c 5 _ rfl
      clear c0 c1 c2 c3 c4 c5
      go_wp2_with fail
      clear d4 d5
      go_loopw [3, 7, 22] (fun s3 s7 s22 wr => ∃ (j : Nat) (K2 : List ByteArray) (op2 : Bool) (hd2 B2 : ByteArray), j ≤ lx.length ∧ s22 = .int .i64 (j : Int) ∧ s7 = .string B2 ∧ PkQ w w.heap.size wr K2 s3 hd2 ∧ CI lx (bytesOf bd) K op hd j K2 op2 hd2 B2 ∧ K2.length ≤ 255 * i + j ∧ hd2.size ≤ 65025 * i + 255 * j) (fun _ _ s22 _ => lx.length - (intOf s22).toNat)
      case atStart => exact ⟨0, K, op, hd, bd, Nat.zero_le _, rfl, rfl, HX.out.2, HCI.out, by omega, by omega⟩
      case round =>
        clear HX HCI
        obtain ⟨j, K2, op2, hd2, B2, hj, rfl, rfl, hq2, hci, hkl2, hhs2⟩ := hrel
        obtain ⟨a4, k4, e4⟩ := owns_sl hq2.own
        subst e4
        have HQ2 := hid hq2
        have HCI2 := hid hci
        clear hq2 hci
        by_cases hlt2 : j < lx.length
        · obtain ⟨b2, o2, rfl, q2⟩ := HPA.out.at j (by omega)
          have r1 := q2 wr HQ2.out.bl
          rw [HLX.out.1 j hlt2] at r1
          have hx255 := HLX.out.2 j hlt2
          have HST := hid (HCI2.out.step hlt2)
          have hxB := (HST.out).1
          clear q2 HCI2
          generalize lx.getD j 0 = x at *
          have hslu := slice_upto B2 x hxB
          have hslf := slice_from B2 x hxB
          have hPz : (B2.extract 0 x).size = x := by rw [ext_len B2 0 x (by omega) hxB]; omega
          have hxi : (x : Int) ≤ (B2.size : Int) := by omega
          obtain ⟨hd3, hh3⟩ : ∃ hd3, hd3 = hd2 ++ B2.extract 0 x := ⟨_, rfl⟩
          have hz3 : hd3.size = hd2.size + x := by rw [hh3, ByteArray.size_append, hPz]
          rw [← hh3] at HST
          have kw := HQ2.out.bu.write (B2.extract 0 x) (by rw [bytesOf_length, hPz]; omega)
          rw [← S2.bytesOf_append, ← hh3] at kw
          clear hh3
          generalize B2.extract x B2.size = B3 at *
          generalize B2.extract 0 x = PX at *
          go_wp2_with fail
          refine kw.mono ?_
          rintro e wz ⟨rfl, hw⟩
          have HQ3 : Hid (PkQ w w.heap.size wz K2 (.slice a4 K2.length k4) hd3) := HQ2.out.turn hw.out
          clear kw hw HQ2 r1
          by_cases hx : x = 255
          · have HC3 := hid (HST.out.2.1 hx)
            have hxl : ¬ (x : Int) < 255 := by omega
            clear HST hx
            go_wp2_with fail
            go_roundw
            case rel => exact ⟨j + 1, K2, true, hd3, B3, by omega, by go_num, rfl, HQ3.out, HC3.out, by omega, by omega⟩
            case measure => simp [intOf]; omega
          · have HC3 := hid (HST.out.2.2 hx)
            have hxl : (x : Int) < 255 := by omega
            have kst := HQ3.out.bu.string
            rw [S2.textOf_bytesOf] at kst
            clear HST hx
            go_wp2_with fail
            refine kst.mono ?_
            rintro e wu ⟨rfl, hs⟩
            have HQ4 : Hid (PkQ w w.heap.size wu K2 (.slice a4 K2.length k4) hd3) := HQ3.out.turn hs.out
            clear kst hs HQ3 hslu hslf hPz hxi hxl
            go_wp2_with (at_builtin; go_loud (refine wpList_append_row _ rfl (.tmp 35) (.tmp 37) 23 rfl w.heap.size 9 iS (.string ⟨#[]⟩) 1 16 Tryd.underlying23 HIS.out.1 HIS.out.2.1 HIS.out.2.2.1 HIS.out.2.2.2 rfl (by decide) (.slice a4 K2.length k4) K2.length _ rfl (HQ4.out.low (below_new _ _)).own ⟨wu.heap.size, 0, none⟩ 1 1 [.string hd3] rfl rfl (one_new wu _ _) (by simp [Value.oneCell']) (by simp only [maxLen]; omega) (by omega) (HQ4.out.low (below_new _ _)).bl.size ?_); intro v7 w7 ho7 hg7 hx7)
            have HQ7 : Hid (PkQ w w.heap.size w7 (K2 ++ [hd3]) v7 hd3) := (HQ4.out.low (below_new _ _)).push ho7.out hg7.out
            have kre := j_Reset HQ7.out.bu
            clear HQ4 ho7 hg7 hx7
            try go_wp2_with fail
            refine kre.mono ?_
            rintro e w8 ⟨rfl, hr⟩
            have HQ8 : Hid (PkQ w w.heap.size w8 (K2 ++ [hd3]) v7 ⟨#[]⟩) := HQ7.out.reset (by exact hr)
            clear kre hr HQ7
            go_wp2_with fail
            go_roundw
            case rel => exact ⟨j + 1, K2 ++ [hd3], false, ⟨#[]⟩, B3, by omega, by go_num, rfl, HQ8.out, HC3.out, by rw [List.length_append, List.length_singleton]; omega, by show 0 ≤ _; omega⟩
            case measure => simp [intOf]; omega
        · have HFI := hid (HNX.out _ _ _ (HCI2.out.fin (by omega)))
          clear HCI2 HNX
          go_wp2_with fail
          go_roundw
          case rel => exact ⟨i + 1, K2, op2, hd2, by omega, by go_num, HQ2.out, HFI.out, by omega, by omega⟩
          case measure => simp [intOf]; omega
    · obtain rfl : i = L.length := by omega
      have HF : Hid (cutS (L.map Prod.fst) = (K.map bytesOf, op, bytesOf hd)) := by
        show _ = _
        rw [← HCU.out, List.take_of_length_le (Nat.le_refl _)]
      clear HCU
      go_wp2_with fail
      go_ret
      obtain ⟨ao, cap, e1, g1, g2, g3⟩ := own_strs3 HQ.out.own
      rw [HF.out]
      refine ⟨⟨ao, cap, ?_, ?_, ?_, g3⟩, HQ.out.bl⟩
      · rw [List.length_map, ← e1]; rfl
      · rw [text_bytes]; exact g1
      · rw [List.length_map]; exact g2

end Go.Proofs.YtjkamannjgcmiaaDoor

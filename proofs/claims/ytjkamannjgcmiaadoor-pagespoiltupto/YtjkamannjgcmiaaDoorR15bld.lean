/- Own text: the walk of the document's Build. -/
import Derived.Test.YtjkamannjgcmiaaDoorR15prs
import Derived.Test.YtjkamannjgcmiaaDoorR15lay
import Derived.Lib.AppendStr
namespace Go.Proofs.YtjkamannjgcmiaaDoor
open Go.RowKit
set_option linter.unusedSimpArgs false
set_option linter.unusedVariables false

/-- What Build answers. -/
def BldE (l : List Pg) (pk : List ByteArray) (e : Ending) : Prop := e = .returned (.tuple #[.string (textOf (bldP l (pk.map bytesOf)).2), .int .i64 (bldP l (pk.map bytesOf)).1])
abbrev bldOk (l : List Pg) (pk : List ByteArray) : Prop := fitOk l (pk.map bytesOf) ∧ (∀ p ∈ l, numOk p) ∧ (prsP (layAll l (pk.map bytesOf).flatten)).1 = 0
theorem BldE_no {l : List Pg} {pk : List ByteArray} (h : ¬ bldOk l pk) : BldE l pk (.returned (.tuple #[.string ⟨#[]⟩, .int .i64 60])) := by
  unfold BldE bldP
  rw [if_neg h]
  rfl
theorem BldE_yes {l : List Pg} {pk : List ByteArray} (h : bldOk l pk) {t : ByteArray} (ht : bytesOf t = layAll l (pk.map bytesOf).flatten) : BldE l pk (.returned (.tuple #[.string t, .int .i64 0])) := by
  unfold BldE bldP
  rw [if_pos h, ← ht, S2.textOf_bytesOf]
structure GQ (w0 wx : World) (v : Value) (X : List Nat) : Prop where
  own : wx.ownsRow w0.heap.size 5 1 v X.length (byteVals X)
  bl : Below w0.heap.size w0 wx
section
variable {w0 wx w' : World} {v v' : Value} {X : List Nat} {t : ByteArray}
theorem strCells_bytes (s : ByteArray) : Lib.strCells s = byteVals (bytesOf s) := by
  unfold Lib.strCells byteVals bytesOf
  rw [List.map_map]
  rfl
theorem GQ.low (h : GQ w0 wx v X) (hb : Below wx.heap.size wx w') : GQ w0 w' v X := ⟨owns_below h.own hb, h.bl.trans (hb.mono h.bl.size)⟩
theorem GQ.app (h : GQ w0 wx v X) (ho : w'.ownsRow w0.heap.size 5 1 v' (X.length + t.size) (byteVals X ++ Lib.strCells t)) (hg : wx.grownBy w' v.ownBlock) : GQ w0 w' v' (X ++ bytesOf t) := by
  refine ⟨?_, grown_to hg h.bl h.bl.size (fun k e => (h.own.lt k e).1)⟩
  rw [List.length_append, bytesOf_length, byteVals_append, ← strCells_bytes]
  exact ho
end
theorem flat_take (pk : List ByteArray) (k : Nat) (t : ByteArray) (h : pk[k]? = some t) : ((pk.take (k + 1)).map bytesOf).flatten = ((pk.take k).map bytesOf).flatten ++ bytesOf t := by
  obtain ⟨hi, rfl⟩ := List.getElem?_eq_some_iff.1 h
  rw [List.take_succ_eq_append_getElem hi, List.map_append, List.flatten_append]
  simp
theorem flat_le (pk : List ByteArray) (k : Nat) : ((pk.take k).map bytesOf).flatten.length ≤ (pk.map bytesOf).flatten.length := by
  have h : (pk.map bytesOf).flatten = ((pk.take k).map bytesOf).flatten ++ ((pk.drop k).map bytesOf).flatten := by rw [← List.flatten_append, ← List.map_append, List.take_append_drop]
  rw [h, List.length_append]
  omega
theorem sum_take (l : List Int) (j : Nat) (h : j < l.length) (h0 : 0 ≤ l.getD j 0) : (((natL l).take (j + 1)).sum : Int) = (((natL l).take j).sum : Nat) + l.getD j 0 := by
  rw [nat_take l j h, List.sum_append, List.sum_singleton]
  omega
theorem sum_take_le (l : List Nat) (j : Nat) : (l.take j).sum ≤ l.sum := by
  have := congrArg List.sum (List.take_append_drop j l)
  rw [List.sum_append] at this
  omega
theorem laces_sum (l : List Pg) (k : Nat) (p : Pg) (hp : l[k]? = some p) : (natL (lacesL (l.drop k))).sum = (natL p.la).sum + (natL (lacesL (l.drop (k + 1)))).sum := by
  rw [laces_drop l k p hp, natL_app, List.sum_append]
theorem lay_drop (l : List Pg) (k : Nat) (p : Pg) (B : List Nat) (hp : l[k]? = some p) : layAll (l.drop k) B = layP p (B.take (natL p.la).sum) ++ layAll (l.drop (k + 1)) (B.drop (natL p.la).sum) := by
  obtain ⟨h1, e1⟩ := List.getElem?_eq_some_iff.1 hp
  rw [List.drop_eq_getElem_cons h1, e1]
  rfl
theorem mem_drop (l : List Pg) (k : Nat) (p q : Pg) (hp : l[k]? = some p) (hq : q ∈ l.drop k) : q = p ∨ q ∈ l.drop (k + 1) := by
  obtain ⟨h1, e1⟩ := List.getElem?_eq_some_iff.1 hp
  rw [List.drop_eq_getElem_cons h1, e1] at hq
  exact List.mem_cons.1 hq
theorem laces_len (l : List Pg) (p : Pg) (hp : p ∈ l) : p.la.length ≤ (lacesL l).length := by
  induction l with
  | nil => simp at hp
  | cons q t ih =>
    show _ ≤ (q.la ++ lacesL t).length
    rw [List.length_append]
    rcases List.mem_cons.1 hp with rfl | hp
    · omega
    · have := ih hp; omega
theorem layAll_len : ∀ (l : List Pg) (B : List Nat), (layAll l B).length ≤ 27 * l.length + (lacesL l).length + B.length
  | [], B => Nat.zero_le _
  | p :: t, B => by
    have h := layAll_len t (B.drop (natL p.la).sum)
    show (layP p _ ++ layAll t _).length ≤ 27 * (t.length + 1) + (p.la ++ lacesL t).length + B.length
    rw [List.length_append, layP_length, List.length_append, List.length_take]
    rw [List.length_drop] at h
    omega
theorem layAll_lt : ∀ (l : List Pg) (B : List Nat), (∀ p ∈ l, numOk p ∧ lacOk p.la) → (∀ x ∈ B, x < 256) → ∀ x ∈ layAll l B, x < 256
  | [], B, _, _ => fun x hx => by simp [layAll] at hx
  | p :: t, B, h, hB => fun x hx => by
    rcases List.mem_append.1 hx with hx | hx
    · exact layP_lt p _ (h p (by simp)).1 (h p (by simp)).2 (fun y hy => hB y (List.mem_of_mem_take hy)) x hx
    · exact layAll_lt t _ (fun q hq => h q (by simp [hq])) (fun y hy => hB y (List.mem_of_mem_drop hy)) x hx
set_option maxRecDepth 20000 in
set_option maxHeartbeats 3200000 in
theorem xbuild_any (l : List Pg) (pk : List ByteArray) (a b : Option Addr) (c d : Nat) (w : World) (hl : PgsAt w a l) (hp : StrsAt w b pk) (hn : l.length ≤ 1048576) (ht : (lacesL l).length ≤ 1048576) (hk : pk.length ≤ 1048576) (hz : (pk.map bytesOf).flatten.length ≤ 4194304) (hgr : ∀ p ∈ l, p.gr ≤ 9223372036854775807) :
    Calls Tryd.prog 14 #[.slice a l.length c, .slice b pk.length d] w fun e w' => BldE l pk e ∧ Below w.heap.size w w' := by
  have HL := hid hl
  have HP := hid hp
  have HGR := hid hgr
  have HZ := hid hz
  have HT := hid ht
  obtain ⟨i5, hj0, hj1, hj2, hj3⟩ := info_parts5 info5b
  have H5 : Hid (Tryd.prog.info? 5 = some i5 ∧ i5.zero = some (.int .u8 0) ∧ i5.size = 1 ∧ i5.bytes = 1) := ⟨hj0, hj1, hj2, hj3⟩
  have kp := xpackets_any l a c w hl (by omega) (by omega)
  clear hl hp hgr hz hj0 hj1 hj2 hj3
  go_enter Tryd.func14, Tryd.ntmps14
  go_wp2_with fail
  refine kp.mono ?_
  rintro e w1 ⟨⟨bo, bc, rfl, hbi, hbc, hbn⟩, hb1⟩
  have HB1 := hid hb1
  have HBI := hid hbi
  clear kp hb1 hbi hbc hbn
  by_cases hok : pktOk (lacesL l)
  · have HOK := hid hok
    have e1 : pktE (lacesL l) = 0 := if_pos hok
    have e2 : pktL (lacesL l) = (sizL (natL (lacesL l)) 0).map (fun x : Nat => (x : Int)) := if_pos hok
    rw [e1]
    rw [e2] at HBI ⊢
    have HSL : Hid (∀ x ∈ sizL (natL (lacesL l)) 0, x ≤ 255 * 1048576) := siz_range (natL (lacesL l)) 0 _ (by rw [natL_length]; omega) (fun x hx => by have := natL_lt _ hok.1 x hx; omega)
    have HFT : Hid (fitOk l (pk.map bytesOf) ↔ sizL (natL (lacesL l)) 0 = pk.map ByteArray.size) := by
      have e : (pk.map bytesOf).map List.length = pk.map ByteArray.size := by
        rw [List.map_map]
        apply List.map_congr_left
        intro x _
        exact bytesOf_length x
      show _ ↔ _
      unfold fitOk
      rw [e]
      exact ⟨fun q => q.2.2, fun q => ⟨hok.1, hok.2, q⟩⟩
    have hsl := siz_len (natL (lacesL l)) 0
    rw [natL_length] at hsl
    rw [List.length_map] at *
    clear e1 e2 hok
    generalize sizL (natL (lacesL l)) 0 = sz at *
    by_cases hlen : sz.length = pk.length
    · have hlb : ((sz.length : Int) != (pk.length : Int)) = false := by rw [bne_eq_false_iff_eq]; omega
      have HLN := hid hlen
      have HG0 : Hid (GQ w1 w1 noS []) := ⟨World.ownsRow_nil _ _ _ _, Below.refl _ _⟩
      clear hlen hsl
      go_wp2_with fail
      clear hlb
      go_loopw [8, 9] (fun s8 s9 wr => ∃ k : Nat, k ≤ pk.length ∧ s9 = .int .i64 (k : Int) ∧ GQ w1 wr s8 ((pk.take k).map bytesOf).flatten ∧ sz.take k = (pk.take k).map ByteArray.size) (fun _ s9 _ => pk.length - (intOf s9).toNat)
      case atStart => exact ⟨0, Nat.zero_le _, rfl, HG0.out, rfl⟩
      case round =>
        clear HG0
        obtain ⟨k, hkp, rfl, hq, htk⟩ := hrel
        obtain ⟨ao, cap, ev⟩ := owns_sl hq.own
        subst ev
        have hXl := flat_le pk k
        have hzz := HZ.out
        have HTK := hid htk
        have HBW := hid hq.bl
        have HBL0 := hid (HB1.out.trans (hq.bl.mono HB1.out.size))
        clear htk
        by_cases hlt : k < pk.length
        · obtain ⟨t, hpt⟩ : ∃ t, pk[k]? = some t := ⟨_, List.getElem?_eq_getElem hlt⟩
          have HFK : Hid (((pk.take (k + 1)).map bytesOf).flatten = ((pk.take k).map bytesOf).flatten ++ bytesOf t) := flat_take pk k t hpt
          have hXt : ((pk.take k).map bytesOf).flatten.length + t.size ≤ 4194304 := by
            have h1 := flat_le pk (k + 1)
            rw [HFK.out, List.length_append, bytesOf_length] at h1
            omega
          have HQ : Hid (GQ w1 wr (.slice ao ((pk.take k).map bytesOf).flatten.length cap) ((pk.take k).map bytesOf).flatten) := hq
          obtain ⟨b1, o1, rfl, q1⟩ := HP.out.at k t hpt
          have hks : k < sz.length := by rw [HLN.out]; exact hlt
          obtain ⟨b2, o2, rfl, q2⟩ := HBI.out.at k (by rw [List.length_map]; exact hks)
          have r1 := q1 wr HBL0.out
          have r2 := q2 wr HBW.out
          obtain ⟨z, hzk⟩ : ∃ z, sz[k]? = some z := ⟨_, List.getElem?_eq_getElem hks⟩
          have hzg : (sz.map (fun x : Nat => (x : Int))).getD k 0 = (z : Int) := by rw [List.getD_eq_getElem?_getD, List.getElem?_map, hzk]; rfl
          rw [hzg] at r2
          have hzb := HSL.out z (List.mem_of_getElem? hzk)
          have HST : Hid (z = t.size → sz.take (k + 1) = (pk.take (k + 1)).map ByteArray.size) := fun h => by
            rw [List.take_add_one, List.take_add_one, hzk, hpt, List.map_append, HTK.out, h]
            rfl
          have HSN : Hid (¬ z = t.size → ¬ bldOk l pk) := fun h q => h (by
            have e := HFT.out.1 q.1
            have e2 := congrArg (fun x => x[k]?) e
            rw [List.getElem?_map, hpt] at e2
            rw [hzk] at e2
            injection e2)
          have hksi : (k : Int) < (sz.length : Int) := by omega
          clear hq q1 q2 hzk hzg hpt hXl HTK
          generalize ((pk.take k).map bytesOf).flatten = X at *
          by_cases hzt : z = t.size
          · have hzb1 : ((t.size : Int) != (z : Int)) = false := by rw [bne_eq_false_iff_eq]; omega
            have HS2 := hid (HST.out hzt)
            clear HST HSN hzt
            go_wp2_with fail
            go_quiet (fail)
            have HQ2 := hid (HQ.out.low (below_drewN wr nq))
            have r3 : (wr.drewN nq).cell? ⟨b1, o1 + k, none⟩ = some (.string t) := by rw [World.cell?_of_block (w := wr) ((below_drewN wr nq).block _ (lt_cell r1))]; exact r1
            clear HQ HBW HBL0 r1 r2
            generalize wr.drewN nq = wq at *
            have HQ := HQ2
            clear HQ2
            go_wp2_with (at_builtin; go_loud (refine Lib.wpList_append_own_string _ rfl (.tmp 49) (.tmp 53) 51 9 rfl w1.heap.size 5 i5 Tryd.underlying51 Tryd.underlying9 H5.out.1 H5.out.2.1 H5.out.2.2.1 H5.out.2.2.2 (.slice ao X.length cap) X.length _ rfl HQ.out.own t rfl (by simp only [maxLen]; omega) (by omega) HQ.out.bl.size ?_); intro v7 w7 ho7 hg7 _)
            have HQ7 : Hid (GQ w1 w7 v7 (X ++ bytesOf t)) := HQ.out.app ho7 hg7
            clear ho7 hg7 HQ r3
            try go_wp2_with fail
            go_roundw
            case rel => exact ⟨k + 1, by omega, by go_num, by rw [HFK.out]; exact HQ7.out, HS2.out⟩
            case measure => simp [intOf]; omega
          · have hzb1 : ((t.size : Int) != (z : Int)) = true := by rw [bne_iff_ne]; omega
            have HNO := hid (HSN.out hzt)
            clear HST HSN hzt
            go_wp2_with fail
            go_quiet (fail)
            have HBL := hid (below_on HBL0.out HBL0.out.size (below_drewN wr nq))
            clear r1 r2 HQ HBW HBL0
            go_wp2_with fail
            go_ret2
            exact ⟨BldE_no HNO.out, HBL.out⟩

        · have hkn : k = pk.length := by omega
          subst hkn
          have htl : pk.take pk.length = pk := List.take_of_length_le (Nat.le_refl _)
          rw [htl] at hq hXl
          rw [htl]
          have HFO : Hid (fitOk l (pk.map bytesOf)) := HFT.out.2 (by
            have := HTK.out
            rw [List.take_of_length_le (by rw [HLN.out]; exact Nat.le_refl _), htl] at this
            exact this)
          have hcv := conv_owned hq.own rfl
          have HR0 : Hid (bytesOf (textOf (pk.map bytesOf).flatten) = (pk.map bytesOf).flatten) := S2.bytesOf_textOf _ (flat_lt (fun q hq x hx => by
            obtain ⟨t, _, rfl⟩ := List.mem_map.1 hq
            exact bytesOf_lt t x hx))
          have HML : Hid ((layAll l (pk.map bytesOf).flatten).length ≤ 40000000) := by
            have := layAll_len l (pk.map bytesOf).flatten
            have := HZ.out
            have := HT.out
            show _ ≤ _
            omega
          have HG4 : Hid (GQ w wr noS []) := ⟨World.ownsRow_nil _ _ _ _, HBL0.out⟩
          have HSM0 : Hid ((pk.map bytesOf).flatten.length = (natL (lacesL l)).sum) := by
            have h1 := siz_sum (natL (lacesL l)) 0 HOK.out.2
            show _ = _
            rw [flat_len, ← HFO.out.2.2, h1, Nat.zero_add]
          clear hq hXl htl HTK HFT HBW HBL0 hlt HBI HSL HLN
          have hrz : (textOf (pk.map bytesOf).flatten).size ≤ 4194304 := by rw [S2.textOf_size]; exact HZ.out
          have HRZ := hid hrz
          clear hrz hzz
          obtain ⟨F, hF⟩ : ∃ F, F = (pk.map bytesOf).flatten := ⟨_, rfl⟩
          have HF := hid hF
          rw [← hF] at hcv HR0 HML HSM0 HRZ
          rw [← hF]
          clear hF
          go_wp2_with fail
          clear hcv
          go_loopw [10, 11, 12] (fun s10 s11 s12 wr => ∃ (k : Nat) (X : List Nat) (r : ByteArray), k ≤ l.length ∧ s12 = .int .i64 (k : Int) ∧ s10 = .string r ∧ GQ w wr s11 X ∧ layAll l F = X ++ layAll (l.drop k) (bytesOf r) ∧ (bytesOf r).length = (natL (lacesL (l.drop k))).sum ∧ ((∀ p ∈ l, numOk p) ↔ ∀ p ∈ l.drop k, numOk p) ∧ r.size ≤ 4194304) (fun _ _ s12 _ => l.length - (intOf s12).toNat)
          case atStart => exact ⟨0, [], textOf F, Nat.zero_le _, rfl, rfl, HG4.out, by rw [HR0.out]; rfl, by rw [HR0.out]; exact HSM0.out, Iff.rfl, HRZ.out⟩
          case round =>
            clear HG4 HR0 HSM0 HRZ
            obtain ⟨k, X, r, hk2, rfl, rfl, hq, hla, hsum, hno, hrz⟩ := hrel
            obtain ⟨ao, cap, ev⟩ := owns_sl hq.own
            subst ev
            have HQ := hid hq
            have HLA := hid hla
            have HSUM := hid hsum
            have HNO0 := hid hno
            have hXl : X.length ≤ 40000000 := by have := HML.out; rw [hla, List.length_append] at this; omega
            clear hq hla hsum hno
            by_cases hlt : k < l.length
            · obtain ⟨p, hpk⟩ : ∃ p, l[k]? = some p := ⟨_, List.getElem?_eq_getElem hlt⟩
              have hpm := List.mem_of_getElem? hpk
              obtain ⟨b1, o1, rfl, ap, pc, hpa, q1⟩ := HL.out.at k p hpk
              have HC := hid q1
              have HPA := hid hpa
              have hlo := lac_mem HOK.out.1 p hpm
              have HLO := hid hlo
              have hpl : p.la.length ≤ 1048576 := by have := laces_len l p hpm; omega
              have hsp := laces_sum l k p hpk
              have hn4 : (natL p.la).sum ≤ r.size := by rw [← bytesOf_length, HSUM.out, hsp]; omega
              have HD := hid (lay_drop l k p (bytesOf r) hpk)
              have HGP := hid (HGR.out p hpm)
              have HNP : Hid (numOk p → ((∀ q ∈ l, numOk q) ↔ ∀ q ∈ l.drop (k + 1), numOk q)) := fun h => HNO0.out.trans ⟨fun hh q hq => hh q (by
                obtain ⟨h1, e1⟩ := List.getElem?_eq_some_iff.1 hpk
                rw [List.drop_eq_getElem_cons h1]
                exact List.mem_cons_of_mem _ hq), fun hh q hq => by
                rcases mem_drop l k p q hpk hq with rfl | hq
                · exact h
                · exact hh q hq⟩
              have HNB : Hid (¬ numOk p → ¬ bldOk l pk) := fun h q => h (q.2.1 p hpm)
              have HS3 : Hid (((bytesOf r).drop (natL p.la).sum).length = (natL (lacesL (l.drop (k + 1)))).sum) := by
                show _ = _
                rw [List.length_drop, HSUM.out, hsp]
                omega
              have KY : Hid (∀ wx, Below w.heap.size w wx → Calls Tryd.prog 31 #[.agg #[.int .i64 p.fl, .int .i64 p.se, .int .i64 p.sq, .int .i64 p.gr, .slice ap p.la.length pc], .string (r.extract 0 (natL p.la).sum)] wx fun e w' => e = .returned (layV p (r.extract 0 (natL p.la).sum)) ∧ Below wx.heap.size wx w') := fun wx hb => xlay_any p ap pc (r.extract 0 (natL p.la).sum) (by rw [ext_len r 0 _ (by omega) hn4]; omega) wx (HPA.out.la.below hb) HLO.out HGP.out
              have HYV : Hid ((numOk p → layV p (r.extract 0 (natL p.la).sum) = .tuple #[.string (textOf (layP p ((bytesOf r).take (natL p.la).sum))), .bool true] ∧ bytesOf (textOf (layP p ((bytesOf r).take (natL p.la).sum))) = layP p ((bytesOf r).take (natL p.la).sum) ∧ (textOf (layP p ((bytesOf r).take (natL p.la).sum))).size ≤ 6000000) ∧ (¬ numOk p → layV p (r.extract 0 (natL p.la).sum) = .tuple #[.string ⟨#[]⟩, .bool false])) := by
                refine ⟨fun h => ⟨by rw [layV_yes _ h, (ext_parts r _ hn4).1], S2.bytesOf_textOf _ (layP_lt p _ h HLO.out (fun x hx => bytesOf_lt r x (List.mem_of_mem_take hx))), ?_⟩, fun h => layV_no _ h⟩
                rw [S2.textOf_size, layP_length, List.length_take, bytesOf_length]
                omega
              have HDB : Hid (bytesOf (r.extract (natL p.la).sum r.size) = (bytesOf r).drop (natL p.la).sum ∧ (r.extract (natL p.la).sum r.size).size ≤ r.size) := ⟨(ext_parts r _ hn4).2, by rw [ext_len r _ _ hn4 (Nat.le_refl _)]; omega⟩
              have hslu := slice_upto r (natL p.la).sum hn4
              have hslf := slice_from r (natL p.la).sum hn4
              have x4 := (q1 wr HQ.out.bl).2.2.2.2
              clear hpa q1 hlo hpk hsp HNO0 HSUM
              go_wp2_with fail
              go_loopw [13, 14] (fun s13 s14 wx => ∃ j : Nat, j ≤ p.la.length ∧ s14 = .int .i64 (j : Int) ∧ s13 = .int .i64 (((natL p.la).take j).sum : Nat) ∧ wx = wr) (fun _ s14 _ => p.la.length - (intOf s14).toNat)
              case atStart => exact ⟨0, Nat.zero_le _, rfl, rfl, rfl⟩
              case round =>
                obtain ⟨j, hj, rfl, rfl, hw⟩ := hrel
                subst hw
                have hst := sum_take_le (natL p.la) j
                by_cases hjl : j < p.la.length
                · obtain ⟨b2, o2, rfl, q2⟩ := HPA.out.la.at j hjl
                  have r1 := q2 wr HQ.out.bl
                  have hlg := lac_get p.la HLO.out j hjl
                  have HSJ := hid (sum_take p.la j hjl hlg.1)
                  have hm4 : ((natL p.la).take j).sum ≤ 4194304 := by omega
                  clear q2 hst hslu hslf hn4
                  generalize ((natL p.la).take j).sum = m at *
                  generalize p.la.getD j 0 = x at *
                  go_wp2_with fail
                  go_roundw
                  case rel => exact ⟨j + 1, by omega, by go_num, by rw [HSJ.out], by simp⟩
                  case measure => simp [intOf]; omega
                · have htk : (natL p.la).take j = natL p.la := List.take_of_length_le (by rw [natL_length]; omega)
                  rw [htk]
                  have HDD := hid HD.out
                  clear htk hst HD
                  obtain ⟨n, hnn⟩ : ∃ n, n = (natL p.la).sum := ⟨_, rfl⟩
                  rw [← hnn] at KY HYV HDB HS3 HDD hslu hslf hn4
                  rw [← hnn]
                  clear hnn
                  go_upto_region 21 with fail
                  clear x4
                  by_cases hnum : numOk p
                  · have HV := hid (HYV.out.1 hnum)
                    have HNP2 := hid (HNP.out hnum)
                    rw [HV.out.1] at KY
                    clear HYV HNP HNB hnum
                    obtain ⟨t, htt⟩ : ∃ t, t = textOf (layP p ((bytesOf r).take n)) := ⟨_, rfl⟩
                    rw [← htt] at HV KY
                    have htz := HV.out.2.2
                    have HVB := hid HV.out.2.1
                    clear HV htt
                    refine wp_region_held_drew (S := fun wx => Hid (Below w.heap.size w wx)) (by kernel_rfl) (hid (below_on HQ.out.bl HQ.out.bl.size (below_drew _))) (fun hS => ?_)
                    refine wpAnyH_take (i := 0) (v := .slice (some ⟨b1, o1, none⟩) l.length c) rfl (by kernel_rfl) (by kernel_rfl) (by kernel_rfl) (fun _ _ _ h => h) (Or.inl ⟨by rfl, fun w hSw => by go_simp⟩) hS ?_
                    simp only [Act.put, List.getElem_toArray, List.getElem_cons_succ, List.getElem_cons_zero, List.setIfInBounds_toArray, List.set_cons_zero, List.set_cons_succ]
                    refine wpAnyH_take (i := 1) (v := .int .i64 (k : Int)) rfl (by kernel_rfl) (by kernel_rfl) (by kernel_rfl) (fun _ _ _ h => h) (Or.inl ⟨by rfl, fun w hSw => by go_simp⟩) hS ?_
                    simp only [Act.put, List.getElem_toArray, List.getElem_cons_succ, List.getElem_cons_zero, List.setIfInBounds_toArray, List.set_cons_zero, List.set_cons_succ]
                    refine wpAnyH_take (i := 2) (v := .pointer (some ⟨b1, o1 + k * 5, none⟩)) rfl (by kernel_rfl) (by kernel_rfl) (by kernel_rfl) (fun _ _ _ h => h) (Or.inl ⟨by rfl, fun w hSw => by go_simp⟩) hS ?_
                    simp only [Act.put, List.getElem_toArray, List.getElem_cons_succ, List.getElem_cons_zero, List.setIfInBounds_toArray, List.set_cons_zero, List.set_cons_succ]
                    refine wpAnyH_take (i := 3) (v := .agg #[.int .i64 p.fl, .int .i64 p.se, .int .i64 p.sq, .int .i64 p.gr, .slice ap p.la.length pc]) rfl (by kernel_rfl) (by kernel_rfl) (by kernel_rfl) (fun _ _ _ h => h) (Or.inl ⟨by rfl, fun w hSw => by obtain ⟨z0, z1, z2, z3, z4⟩ := HC.out _ hSw.out; go_simp⟩) hS ?_
                    simp only [Act.put, List.getElem_toArray, List.getElem_cons_succ, List.getElem_cons_zero, List.setIfInBounds_toArray, List.set_cons_zero, List.set_cons_succ]
                    refine wpAnyH_take (i := 4) (v := .string r) rfl (by kernel_rfl) (by kernel_rfl) (by kernel_rfl) (fun _ _ _ h => h) (Or.inl ⟨by rfl, fun w hSw => by go_simp⟩) hS ?_
                    simp only [Act.put, List.getElem_toArray, List.getElem_cons_succ, List.getElem_cons_zero, List.setIfInBounds_toArray, List.set_cons_zero, List.set_cons_succ]
                    refine wpAnyH_take (i := 5) (v := .int .i64 (n : Int)) rfl (by kernel_rfl) (by kernel_rfl) (by kernel_rfl) (fun _ _ _ h => h) (Or.inl ⟨by rfl, fun w hSw => by go_simp⟩) hS ?_
                    simp only [Act.put, List.getElem_toArray, List.getElem_cons_succ, List.getElem_cons_zero, List.setIfInBounds_toArray, List.set_cons_zero, List.set_cons_succ]
                    refine wpAnyH_take (i := 6) (v := .string (r.extract 0 n)) rfl (by kernel_rfl) (by kernel_rfl) (by kernel_rfl) (fun _ _ _ h => h) (Or.inl ⟨by rfl, fun w hSw => by go_simp⟩) hS ?_
                    simp only [Act.put, List.getElem_toArray, List.getElem_cons_succ, List.getElem_cons_zero, List.setIfInBounds_toArray, List.set_cons_zero, List.set_cons_succ]
                    refine wpAnyH_ready (rs := [7]) (by kernel_rfl) (by simp) ?_
                    refine AllReadyH.cons rfl (fun K hK => ?_) AllReadyH.nil
                    go_simp
                    refine (KY.out wr.drew (below_on HQ.out.bl HQ.out.bl.size (below_drew _))).mono ?_
                    rintro e w5 ⟨rfl, hb5⟩
                    have HQ5 := hid ((HQ.out.low (below_drew _)).low hb5)
                    refine hK.out _ _ (hid HQ5.out.bl) (fun hS2 => ?_)
                    clear hK K hS HQ hb5 KY
                    refine wpAnyH_take (i := 8) (v := .tuple #[.string t, .bool true]) rfl (by kernel_rfl) (by kernel_rfl) (by kernel_rfl) (fun _ _ _ h => h) (Or.inl ⟨by rfl, fun w hSw => by go_simp⟩) hS2 ?_
                    simp only [Act.put, List.getElem_toArray, List.getElem_cons_succ, List.getElem_cons_zero, List.setIfInBounds_toArray, List.set_cons_zero, List.set_cons_succ]
                    refine wpAnyH_take (i := 9) (v := .string t) rfl (by kernel_rfl) (by kernel_rfl) (by kernel_rfl) (fun _ _ _ h => h) (Or.inl ⟨by rfl, fun w hSw => by go_simp⟩) hS2 ?_
                    simp only [Act.put, List.getElem_toArray, List.getElem_cons_succ, List.getElem_cons_zero, List.setIfInBounds_toArray, List.set_cons_zero, List.set_cons_succ]
                    refine wpAnyH_take (i := 10) (v := .bool true) rfl (by kernel_rfl) (by kernel_rfl) (by kernel_rfl) (fun _ _ _ h => h) (Or.inl ⟨by rfl, fun w hSw => by go_simp⟩) hS2 ?_
                    simp only [Act.put, List.getElem_toArray, List.getElem_cons_succ, List.getElem_cons_zero, List.setIfInBounds_toArray, List.set_cons_zero, List.set_cons_succ]
                    refine wpAnyH_take (i := 11) (v := .string t) rfl (by kernel_rfl) (by kernel_rfl) (by kernel_rfl) (fun _ _ _ h => h) (Or.inl ⟨by rfl, fun w hSw => by go_simp⟩) hS2 ?_
                    simp only [Act.put, List.getElem_toArray, List.getElem_cons_succ, List.getElem_cons_zero, List.setIfInBounds_toArray, List.set_cons_zero, List.set_cons_succ]
                    refine wpAnyH_take (i := 12) (v := .bool true) rfl (by kernel_rfl) (by kernel_rfl) (by kernel_rfl) (fun _ _ _ h => h) (Or.inl ⟨by rfl, fun w hSw => by go_simp⟩) hS2 ?_
                    simp only [Act.put, List.getElem_toArray, List.getElem_cons_succ, List.getElem_cons_zero, List.setIfInBounds_toArray, List.set_cons_zero, List.set_cons_succ]
                    refine wpAnyH_done (by kernel_rfl) ?_ _
                    clear hslu
                    have HQ := HQ5
                    clear HQ5
                    have HTB : Hid (layAll l F = (X ++ bytesOf t) ++ layAll (l.drop (k + 1)) (bytesOf (r.extract n r.size))) := by
                      show _ = _
                      rw [HLA.out, HDD.out, HVB.out, HDB.out.1, List.append_assoc]
                    have HS4 : Hid ((bytesOf (r.extract n r.size)).length = (natL (lacesL (l.drop (k + 1)))).sum) := by show _ = _; rw [HDB.out.1]; exact HS3.out
                    have HRZ2 : Hid ((r.extract n r.size).size ≤ 4194304) := by have := HDB.out.2; show _ ≤ _; omega
                    clear HLA HDD HVB HDB HS3
                    go_wp2_with (at_builtin; go_loud (refine Lib.wpList_append_own_string _ rfl (.tmp 96) (.tmp 97) 51 9 rfl w.heap.size 5 i5 Tryd.underlying51 Tryd.underlying9 H5.out.1 H5.out.2.1 H5.out.2.2.1 H5.out.2.2.2 (.slice ao X.length cap) X.length _ rfl HQ.out.own t rfl (by simp only [maxLen]; omega) (by omega) HQ.out.bl.size ?_); intro v7 w7 ho7 hg7 _)
                    have HQ7 : Hid (GQ w w7 v7 (X ++ bytesOf t)) := HQ.out.app ho7 hg7
                    clear ho7 hg7 HQ
                    try go_wp2_with fail
                    go_roundw
                    case rel => exact ⟨k + 1, X ++ bytesOf t, r.extract n r.size, by omega, by go_num, rfl, HQ7.out, HTB.out, HS4.out, HNP2.out, HRZ2.out⟩
                    case measure => simp [intOf]; omega
                  · have HNO := hid (HNB.out hnum)
                    rw [HYV.out.2 hnum] at KY
                    clear HYV HNP HNB hnum
                    refine wp_region_held_drew (S := fun wx => Hid (Below w.heap.size w wx)) (by kernel_rfl) (hid (below_on HQ.out.bl HQ.out.bl.size (below_drew _))) (fun hS => ?_)
                    refine wpAnyH_take (i := 0) (v := .slice (some ⟨b1, o1, none⟩) l.length c) rfl (by kernel_rfl) (by kernel_rfl) (by kernel_rfl) (fun _ _ _ h => h) (Or.inl ⟨by rfl, fun w hSw => by go_simp⟩) hS ?_
                    simp only [Act.put, List.getElem_toArray, List.getElem_cons_succ, List.getElem_cons_zero, List.setIfInBounds_toArray, List.set_cons_zero, List.set_cons_succ]
                    refine wpAnyH_take (i := 1) (v := .int .i64 (k : Int)) rfl (by kernel_rfl) (by kernel_rfl) (by kernel_rfl) (fun _ _ _ h => h) (Or.inl ⟨by rfl, fun w hSw => by go_simp⟩) hS ?_
                    simp only [Act.put, List.getElem_toArray, List.getElem_cons_succ, List.getElem_cons_zero, List.setIfInBounds_toArray, List.set_cons_zero, List.set_cons_succ]
                    refine wpAnyH_take (i := 2) (v := .pointer (some ⟨b1, o1 + k * 5, none⟩)) rfl (by kernel_rfl) (by kernel_rfl) (by kernel_rfl) (fun _ _ _ h => h) (Or.inl ⟨by rfl, fun w hSw => by go_simp⟩) hS ?_
                    simp only [Act.put, List.getElem_toArray, List.getElem_cons_succ, List.getElem_cons_zero, List.setIfInBounds_toArray, List.set_cons_zero, List.set_cons_succ]
                    refine wpAnyH_take (i := 3) (v := .agg #[.int .i64 p.fl, .int .i64 p.se, .int .i64 p.sq, .int .i64 p.gr, .slice ap p.la.length pc]) rfl (by kernel_rfl) (by kernel_rfl) (by kernel_rfl) (fun _ _ _ h => h) (Or.inl ⟨by rfl, fun w hSw => by obtain ⟨z0, z1, z2, z3, z4⟩ := HC.out _ hSw.out; go_simp⟩) hS ?_
                    simp only [Act.put, List.getElem_toArray, List.getElem_cons_succ, List.getElem_cons_zero, List.setIfInBounds_toArray, List.set_cons_zero, List.set_cons_succ]
                    refine wpAnyH_take (i := 4) (v := .string r) rfl (by kernel_rfl) (by kernel_rfl) (by kernel_rfl) (fun _ _ _ h => h) (Or.inl ⟨by rfl, fun w hSw => by go_simp⟩) hS ?_
                    simp only [Act.put, List.getElem_toArray, List.getElem_cons_succ, List.getElem_cons_zero, List.setIfInBounds_toArray, List.set_cons_zero, List.set_cons_succ]
                    refine wpAnyH_take (i := 5) (v := .int .i64 (n : Int)) rfl (by kernel_rfl) (by kernel_rfl) (by kernel_rfl) (fun _ _ _ h => h) (Or.inl ⟨by rfl, fun w hSw => by go_simp⟩) hS ?_
                    simp only [Act.put, List.getElem_toArray, List.getElem_cons_succ, List.getElem_cons_zero, List.setIfInBounds_toArray, List.set_cons_zero, List.set_cons_succ]
                    refine wpAnyH_take (i := 6) (v := .string (r.extract 0 n)) rfl (by kernel_rfl) (by kernel_rfl) (by kernel_rfl) (fun _ _ _ h => h) (Or.inl ⟨by rfl, fun w hSw => by go_simp⟩) hS ?_
                    simp only [Act.put, List.getElem_toArray, List.getElem_cons_succ, List.getElem_cons_zero, List.setIfInBounds_toArray, List.set_cons_zero, List.set_cons_succ]
                    refine wpAnyH_ready (rs := [7]) (by kernel_rfl) (by simp) ?_
                    refine AllReadyH.cons rfl (fun K hK => ?_) AllReadyH.nil
                    go_simp
                    refine (KY.out wr.drew (below_on HQ.out.bl HQ.out.bl.size (below_drew _))).mono ?_
                    rintro e w5 ⟨rfl, hb5⟩
                    have HQ5 := hid ((HQ.out.low (below_drew _)).low hb5)
                    refine hK.out _ _ (hid HQ5.out.bl) (fun hS2 => ?_)
                    clear hK K hS HQ hb5 KY
                    refine wpAnyH_take (i := 8) (v := .tuple #[.string ⟨#[]⟩, .bool false]) rfl (by kernel_rfl) (by kernel_rfl) (by kernel_rfl) (fun _ _ _ h => h) (Or.inl ⟨by rfl, fun w hSw => by go_simp⟩) hS2 ?_
                    simp only [Act.put, List.getElem_toArray, List.getElem_cons_succ, List.getElem_cons_zero, List.setIfInBounds_toArray, List.set_cons_zero, List.set_cons_succ]
                    refine wpAnyH_take (i := 9) (v := .string ⟨#[]⟩) rfl (by kernel_rfl) (by kernel_rfl) (by kernel_rfl) (fun _ _ _ h => h) (Or.inl ⟨by rfl, fun w hSw => by go_simp⟩) hS2 ?_
                    simp only [Act.put, List.getElem_toArray, List.getElem_cons_succ, List.getElem_cons_zero, List.setIfInBounds_toArray, List.set_cons_zero, List.set_cons_succ]
                    refine wpAnyH_take (i := 10) (v := .bool false) rfl (by kernel_rfl) (by kernel_rfl) (by kernel_rfl) (fun _ _ _ h => h) (Or.inl ⟨by rfl, fun w hSw => by go_simp⟩) hS2 ?_
                    simp only [Act.put, List.getElem_toArray, List.getElem_cons_succ, List.getElem_cons_zero, List.setIfInBounds_toArray, List.set_cons_zero, List.set_cons_succ]
                    refine wpAnyH_take (i := 11) (v := .string ⟨#[]⟩) rfl (by kernel_rfl) (by kernel_rfl) (by kernel_rfl) (fun _ _ _ h => h) (Or.inl ⟨by rfl, fun w hSw => by go_simp⟩) hS2 ?_
                    simp only [Act.put, List.getElem_toArray, List.getElem_cons_succ, List.getElem_cons_zero, List.setIfInBounds_toArray, List.set_cons_zero, List.set_cons_succ]
                    refine wpAnyH_take (i := 12) (v := .bool false) rfl (by kernel_rfl) (by kernel_rfl) (by kernel_rfl) (fun _ _ _ h => h) (Or.inl ⟨by rfl, fun w hSw => by go_simp⟩) hS2 ?_
                    simp only [Act.put, List.getElem_toArray, List.getElem_cons_succ, List.getElem_cons_zero, List.setIfInBounds_toArray, List.set_cons_zero, List.set_cons_succ]
                    refine wpAnyH_done (by kernel_rfl) ?_ _
                    have HBL := hid HQ5.out.bl
                    clear HQ5 hslu hslf
                    go_wp2_with fail
                    go_ret2
                    exact ⟨BldE_no HNO.out, HBL.out⟩
            · have hkn : l.drop k = [] := List.drop_of_length_le (by omega)
              have hXe : layAll l F = X := by have := HLA.out; rw [hkn] at this; rw [this]; show X ++ [] = X; rw [List.append_nil]
              have hnum : ∀ p ∈ l, numOk p := HNO0.out.2 (by rw [hkn]; intro p hp; simp at hp)
              have hcv := conv_owned HQ.out.own rfl
              have hbt : bytesOf (textOf X) = X := S2.bytesOf_textOf _ (by
                rw [← hXe, HF.out]
                exact layAll_lt l _ (fun p hp => ⟨hnum p hp, lac_mem HOK.out.1 p hp⟩) (flat_lt (fun q hq x hx => by
                  obtain ⟨t, _, rfl⟩ := List.mem_map.1 hq
                  exact bytesOf_lt t x hx)))
              have kp := xparse_any (textOf X) (by rw [S2.textOf_size]; omega) wr
              rw [hbt] at kp
              have HXF : Hid (X = layAll l (pk.map bytesOf).flatten) := by show _ = _; rw [← hXe, HF.out]
              have HLW := hid (HL.out.below HQ.out.bl)
              have HGD : Hid ((prsP X).1 = 0 → bldOk l pk ∧ prsP X = (0, l, pk.map bytesOf)) := fun h => by
                have hb : bldOk l pk := ⟨HFO.out, hnum, by rw [← HXF.out]; exact h⟩
                have e : bldP l (pk.map bytesOf) = (0, X) := by unfold bldP; rw [if_pos hb, ← HXF.out]
                exact ⟨hb, (bld_read l _ X e).2⟩
              have HBD : Hid (¬ (prsP X).1 = 0 → ¬ bldOk l pk) := fun h q => h (by rw [HXF.out]; exact q.2.2)
              have HBT : Hid (bytesOf (textOf X) = layAll l (pk.map bytesOf).flatten) := by show _ = _; rw [hbt]; exact HXF.out
              clear hkn hXe hnum hbt HLA HSUM HNO0 HML hrz HF HFO
              obtain ⟨t, htt⟩ : ∃ t, t = textOf X := ⟨_, rfl⟩
              have HTT := hid htt
              rw [← htt] at hcv kp HBT
              clear htt
              go_wp2_with fail
              clear hlt
              refine kp.mono ?_
              rintro e w8 ⟨hpe, hb8⟩
              obtain ⟨po, pc, qo, qc, he, hpp, _, _, _, _, _⟩ := hpe
              have HQ8 := hid (HQ.out.low hb8)
              have HLW8 := hid (HLW.out.below hb8)
              have HPP := hid hpp
              subst he
              clear hpp hb8 kp HLW HQ hcv
              by_cases h0 : (prsP X).1 = 0
              · obtain ⟨hb, hpr⟩ := HGD.out h0
                have HOK2 := hid hb
                rw [hpr]
                rw [hpr] at HPP
                have ks := pages_same l a po c pc w8 HLW8.out HPP.out (by omega)
                clear hb hpr h0 HGD HBD HLW8 HPP
                go_wp2_with fail
                refine ks.mono ?_
                rintro e w9 ⟨rfl, hb9⟩
                have HQ9 := hid (HQ8.out.low hb9)
                have hcv := conv_owned HQ9.out.own rfl
                rw [← HTT.out] at hcv
                clear ks hb9 HQ8
                go_wp2_with fail
                go_ret2
                exact ⟨BldE_yes HOK2.out HBT.out, HQ9.out.bl⟩
              · have HNO := hid (HBD.out h0)
                have hnb : ((prsP X).1 != 0) = true := by rw [bne_iff_ne]; exact h0
                clear h0 HGD HBD HLW8 HPP
                generalize (prsP X).1 = E at *
                generalize (prsP X).2.1 = M1 at *
                generalize (prsP X).2.2 = M2 at *
                go_wp2_with fail
                go_ret2
                exact ⟨BldE_no HNO.out, HQ8.out.bl⟩
    · have hlb : ((sz.length : Int) != (pk.length : Int)) = true := by rw [bne_iff_ne]; omega
      have HNO : Hid (¬ bldOk l pk) := fun q => hlen (by
        have e := congrArg List.length (HFT.out.1 q.1)
        rw [List.length_map] at e
        exact e)
      clear hlen HFT hsl
      go_wp2_with fail
      go_ret2
      exact ⟨BldE_no HNO.out, HB1.out⟩

  · have e1 : pktE (lacesL l) = 60 := if_neg hok
    have HNO : Hid (¬ bldOk l pk) := fun q => hok ⟨q.1.1, q.1.2.1⟩
    rw [e1]
    clear e1 hok
    generalize pktL (lacesL l) = M at *
    go_wp2_with fail
    go_ret2
    exact ⟨BldE_no HNO.out, HB1.out⟩


end Go.Proofs.YtjkamannjgcmiaaDoor

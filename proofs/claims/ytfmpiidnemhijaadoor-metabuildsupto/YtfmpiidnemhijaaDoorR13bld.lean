/- Own text: the walk of the document's Build. -/
import Derived.Test.YtfmpiidnemhijaaDoorR13ly
import Derived.Test.YtfmpiidnemhijaaDoorQ13same
import Derived.Test.YtfmpiidnemhijaaDoorP13awake
import Derived.Lib.AppendStr
namespace Go.Proofs.YtfmpiidnemhijaaDoor
open Go.RowKit
set_option linter.unusedSimpArgs false
set_option linter.unusedVariables false

theorem conv_ownedB {w : World} {base : Nat} {ao : Option Addr} {cap : Nat} {bs : List Nat} {n : Nat} (h : w.ownsRow base 5 1 (.slice ao n cap) n (byteVals bs)) (hn : bs.length = n) :
    (convert 63 9 (.slice ao n cap)).run Tryd.prog w = .ok (.string (textOf bs)) w := by
  subst hn
  obtain ⟨ao1, cap1, hv, _, _, _, hs⟩ := owns_shape h
  simp only [Value.slice.injEq, true_and] at hv
  obtain ⟨rfl, rfl⟩ := hv
  cases ao with
  | none =>
    have hb : bs = [] := by
      rcases h.2 with ⟨_, h0⟩ | ⟨g, cap', cur, hv, _⟩
      · exact List.eq_nil_of_length_eq_zero h0
      · cases hv
    subst hb
    exact run_convert_bytes_nil w 63 5 Tryd.underlying63 Tryd.underlying5 _ _ 9 Tryd.underlying9
  | some a =>
    obtain ⟨g, rfl⟩ : ∃ g, a = ⟨g, 0, none⟩ := ⟨_, (hs a rfl).1⟩
    rw [textOf_eq]
    refine run_convert_bytes_arg w 63 5 Tryd.underlying63 Tryd.underlying5 g 0 bs.length cap _ (by simp) (fun i hi => ?_) 9 Tryd.underlying9
    rw [Nat.zero_add, h.cellAt i (by omega)]
    simp [byteVals, List.getD, hi]
theorem strCells_bytes (s : ByteArray) : Lib.strCells s = byteVals (bytesOf s) := by
  unfold Lib.strCells byteVals bytesOf
  rw [List.map_map]
  rfl
/-- The text's bytes so far. -/
structure Gx (w6 wx : World) (v : Value) (X : List Nat) : Prop where
  own : wx.ownsRow w6.heap.size 5 1 v X.length (byteVals X)
  bl : Below w6.heap.size w6 wx
theorem Gx.app {w6 wx w' : World} {v v' : Value} {X : List Nat} {s : ByteArray} (h : Gx w6 wx v X) (ho : w'.ownsRow w6.heap.size 5 1 v' (X.length + s.size) (byteVals X ++ Lib.strCells s)) (hg : wx.grownBy w' v.ownBlock) : Gx w6 w' v' (X ++ bytesOf s) := by
  refine ⟨?_, grown_to hg h.bl h.bl.size (fun k e => (h.own.lt k e).1)⟩
  rw [List.length_append, bytesOf_length, byteVals_append, ← strCells_bytes]
  exact ho
theorem take_flat (ts : List ByteArray) (j : Nat) (s : ByteArray) (h : ts[j]? = some s) : (ts.take (j + 1)).flatMap bytesOf = (ts.take j).flatMap bytesOf ++ bytesOf s := by
  obtain ⟨hi, rfl⟩ := List.getElem?_eq_some_iff.1 h
  rw [List.take_succ_eq_append_getElem hi, List.flatMap_append]
  simp
theorem take_flat_le (ts : List ByteArray) (j : Nat) : ((ts.take j).flatMap bytesOf).length ≤ (ts.flatMap bytesOf).length := by
  have h : ts.flatMap bytesOf = (ts.take j).flatMap bytesOf ++ (ts.drop j).flatMap bytesOf := by rw [← List.flatMap_append, List.take_append_drop]
  rw [h, List.length_append]
  omega
theorem lay_same (l : List Blk) (hm : mayS l = false) (h256 : ∀ x ∈ layL l, x < 256) (h0 : (prsN (textOf (layL l))).2.2 = 0) (hs : sameL l (prsN (textOf (layL l))).1 = true) : False := by
  have hp : prsN (textOf (layL l)) = ((prsN (textOf (layL l))).1, (prsN (textOf (layL l))).2.1, 0) := by rw [← h0]
  have h1 := (prsN_again hp).1
  rw [← sameL_eq _ _ hs, hm] at h1
  cases h1
set_option maxRecDepth 20000 in
set_option maxHeartbeats 6400000 in
theorem xbuild_any (l : List Blk) (lo : Option Addr) (lc : Nat) (w : World) (hl : BlksAt w lo l) (hn : l.length ≤ 1048576) (hz : sizL l ≤ 4194304) (hs : ∀ b ∈ l, b.body.size ≤ 140737488351232) :
    Calls Tryd.prog 19 #[.slice lo l.length lc] w fun e w' => BldE l e ∧ Below w.heap.size w w' := by
  have HL : Hid (BlksAt w lo l) := hl
  have HS : Hid (∀ b ∈ l, b.body.size ≤ 140737488351232) := hs
  have HZ : Hid (sizL l ≤ 4194304) := hz
  have KC : Hid (∀ b : Blk, b.body.size ≤ 140737488351232 → ∀ wx, Calls Tryd.prog 14 #[blkV b] wx fun e w' => e = .returned (.int .i64 (chkE b)) ∧ Below wx.heap.size wx w') := fun b hb wx => xcheck_any b hb wx
  obtain ⟨i5, hj0, hj1, hj2, hj3⟩ := info_parts Tryd.info5
  have H5 : Hid (Tryd.prog.info? 5 = some i5 ∧ i5.zero = some (.int .u8 0) ∧ i5.size = 1 ∧ i5.bytes = 1) := ⟨hj0, hj1, hj2, hj3⟩
  clear hl hs hz hj0 hj1 hj2 hj3
  go_enter Tryd.func19, Tryd.ntmps19
  go_wp2_with fail
  go_loopw [4] (fun t wr => ∃ k : Nat, k ≤ l.length ∧ t = .int .i64 (k : Int) ∧ Below w.heap.size w wr ∧ ∀ j b, j < k → l[j]? = some b → chkE b = 0) (fun t _ => l.length - (intOf t).toNat)
  case atStart => exact ⟨0, Nat.zero_le _, rfl, Below.refl _ _, fun j b hj => absurd hj (Nat.not_lt_zero _)⟩
  case round =>
    obtain ⟨k, hk, rfl, hbl, hall⟩ := hrel
    have HB : Hid (Below w.heap.size w wr) := hbl
    have HALL : Hid (∀ j b, j < k → l[j]? = some b → chkE b = 0) := hall
    clear hbl hall
    by_cases hlt : k < l.length
    · obtain ⟨b, hb⟩ : ∃ b, l[k]? = some b := ⟨_, List.getElem?_eq_getElem hlt⟩
      have HBK : Hid (l[k]? = some b) := hb
      obtain ⟨bb, off, rfl, hcl⟩ := HL.out.at k b hb
      obtain ⟨x0, x1⟩ := hcl wr HB.out
      have kc := KC.out b (HS.out b (List.mem_of_getElem? hb)) wr
      clear hcl hb KC
      by_cases h0 : chkE b = 0
      · rw [h0] at kc
        have H0 : Hid (chkE b = 0) := h0
        clear h0
        go_wp2_with fail
        refine kc.mono ?_
        rintro e w2 ⟨rfl, hb2⟩
        have HB2 : Hid (Below w.heap.size w w2) := HB.out.trans (hb2.mono HB.out.size)
        clear hb2 kc
        go_wp2_with fail
        go_roundw
        case rel =>
          refine ⟨k + 1, by omega, by go_num, HB2.out, fun j c hj hc => ?_⟩
          by_cases e : j = k
          · subst e
            have := HBK.out
            rw [hc] at this
            cases this
            exact H0.out
          · exact HALL.out j c (by omega) hc
        case measure => simp [intOf]; omega
      · have HNO : Hid (mayS l = false) := by
          show _ = _
          cases hm : mayS l
          · rfl
          · exact absurd (std_mem l 0 false (Bool.and_eq_true_iff.1 hm).1 b (List.mem_of_getElem? HBK.out)).2.2.2 h0
        have bz : (chkE b != 0) = true := by rw [bne_iff_ne]; exact h0
        generalize chkE b = E at *
        clear h0
        go_wp2_with fail
        refine kc.mono ?_
        rintro e w2 ⟨rfl, hb2⟩
        have HB2 : Hid (Below w.heap.size w w2) := HB.out.trans (hb2.mono HB.out.size)
        clear hb2 kc
        go_wp2_with fail
        go_ret2
        exact ⟨.inr ⟨HNO.out, rfl⟩, HB2.out⟩
    · have hkl : k = l.length := by omega
      subst hkl
      have HCC : Hid (∀ b ∈ l, 0 ≤ b.ty ∧ b.ty ≤ 126 ∧ b.body.size ≤ 16777215) := fun b hb => by
        obtain ⟨j, hj, rfl⟩ := List.getElem_of_mem hb
        exact chkE_zero (HALL.out j _ (by omega) (List.getElem?_eq_getElem hj))
      have HLW : Hid (BlksAt wr lo l) := HL.out.below HB.out
      have kl := xlay_any l lo lc wr HLW.out hn HCC.out
      have h256 : ∀ x ∈ layL l, x < 256 := fun x hx => by
        refine layL_256 l (fun b hb => ?_) x hx
        obtain ⟨h1, h2, h3⟩ := HCC.out b hb
        obtain ⟨j, hj, rfl⟩ := List.getElem_of_mem hb
        exact ⟨h1, h2, h3, HALL.out j _ (by omega) (List.getElem?_eq_getElem hj)⟩
      have HSM : Hid (mayS l = false → (prsN (textOf (layL l))).2.2 = 0 → sameL l (prsN (textOf (layL l))).1 = false) := fun hm h0 => by
        cases hs : sameL l (prsN (textOf (layL l))).1
        · rfl
        · exact (lay_same l hm h256 h0 hs).elim
      have HGO : Hid (mayS l = true → prsN (textOf (layL l)) = (l, (layL l).length, 0)) := fun hm => prsN_lay (R := []) hm (by rw [S2.bytesOf_textOf _ h256, List.append_nil])
      have hzl : (layL l).length ≤ 4194304 := by rw [lay_len]; exact HZ.out
      have HZL : Hid ((layL l).length ≤ 4194304) := hzl
      clear hlt hk HALL HCC h256 KC HL HS HZ
      go_wp2_with fail
      refine kl.mono ?_
      rintro e w6 ⟨⟨v, rfl, hlt6⟩, hb6⟩
      obtain ⟨ts, hown, htl, htb⟩ := hlt6.ex
      obtain ⟨to, tc, rfl, _⟩ := owns_shape hown
      have HOW : Hid (w6.ownsRow wr.heap.size 9 1 (.slice to l.length tc) l.length (ts.map Value.string)) := hown
      have HTL : Hid (ts.length = l.length ∧ ts.flatMap bytesOf = layL l) := ⟨htl, htb.trans (layU_all l)⟩
      have HB6 : Hid (Below w.heap.size w w6) := HB.out.trans (hb6.mono HB.out.size)
      have HL6 : Hid (BlksAt w6 lo l) := HLW.out.below hb6
      have HG0 : Hid (Gx w6 w6 noS []) := ⟨World.ownsRow_nil _ _ _ _, Below.refl _ _⟩
      clear hown htl htb hb6 hlt6 kl HB HLW
      go_wp2_with fail
      go_loopw [5, 7] (fun g t wz => ∃ j : Nat, j ≤ l.length ∧ t = .int .i64 (j : Int) ∧ Gx w6 wz g ((ts.take j).flatMap bytesOf)) (fun _ t _ => l.length - (intOf t).toNat)
      case atStart => exact ⟨0, Nat.zero_le _, rfl, HG0.out⟩
      case round =>
        obtain ⟨j, hj, rfl, hq⟩ := hrel
        obtain ⟨ao, cap, hg, _⟩ := owns_shape hq.own
        subst hg
        clear HG0
        by_cases hlt : j < l.length
        · obtain ⟨s, hsj⟩ : ∃ s, ts[j]? = some s := ⟨_, List.getElem?_eq_getElem (by rw [HTL.out.1]; exact hlt)⟩
          have HTF : Hid ((ts.take (j + 1)).flatMap bytesOf = (ts.take j).flatMap bytesOf ++ bytesOf s) := take_flat ts j s hsj
          have HLE : Hid (((ts.take j).flatMap bytesOf).length + s.size ≤ 4194304) := by
            have h := take_flat_le ts (j + 1)
            rw [HTF.out, List.length_append, bytesOf_length, HTL.out.2] at h
            exact Nat.le_trans h HZL.out
          obtain ⟨gt, rfl⟩ : ∃ gt, to = some ⟨gt, 0, none⟩ := by
            obtain ⟨ao2, cap2, e2, _, _, h0, h1⟩ := owns_shape HOW.out
            cases e2
            cases to with
            | none => have := (h0 rfl).1; omega
            | some x => exact ⟨x.block, by rw [(h1 x rfl).1]⟩
          rename World => wz
          have hrow := owns_below HOW.out hq.bl
          have x0 : wz.cell? ⟨gt, j, none⟩ = some (.string s) := by
            rw [hrow.cellAt j (by omega), List.getElem?_map, hsj]
            rfl
          have HQ : Hid (Gx w6 wz (.slice ao ((ts.take j).flatMap bytesOf).length cap) ((ts.take j).flatMap bytesOf)) := hq
          clear hq hrow hsj
          generalize (ts.take j).flatMap bytesOf = X at *
          go_wp2_with (at_builtin; go_loud (refine Lib.wpList_append_own_string _ rfl (.tmp 31) (.tmp 35) 63 9 rfl w6.heap.size 5 i5 Tryd.underlying63 Tryd.underlying9 H5.out.1 H5.out.2.1 H5.out.2.2.1 H5.out.2.2.2 (.slice ao X.length cap) X.length _ rfl HQ.out.own s rfl (by have := HLE.out; simp only [maxLen]; omega) (by have := HLE.out; omega) HQ.out.bl.size ?_); intro v7 w7 ho7 hg7 _)
          have HQ7 : Hid (Gx w6 w7 v7 (X ++ bytesOf s)) := HQ.out.app ho7 hg7
          clear ho7 hg7 HQ x0
          try go_wp2_with fail
          go_roundw
          case rel => exact ⟨j + 1, by omega, by go_num, by rw [HTF.out]; exact HQ7.out⟩
          case measure => simp [intOf]; omega
        · have hjl : j = l.length := by omega
          subst hjl
          have hX : (ts.take l.length).flatMap bytesOf = layL l := by
            rw [List.take_of_length_le (by rw [HTL.out.1]; omega)]
            exact HTL.out.2
          rw [hX] at hq
          rw [hX]
          rename World => wz
          have hcv := conv_ownedB hq.own rfl
          have HBZ : Hid (Below w.heap.size w wz) := HB6.out.trans (hq.bl.mono HB6.out.size)
          have HLZ : Hid (BlksAt wz lo l) := HL6.out.below hq.bl
          have hsz : (textOf (layL l)).size = (layL l).length := S2.textOf_size _
          have kp := xparse_any (textOf (layL l)) (by rw [hsz]; omega) wz
          have HQO : Hid (wz.ownsRow w6.heap.size 5 1 (.slice ao (layL l).length cap) (layL l).length (byteVals (layL l)) ∧ w6.heap.size ≤ wz.heap.size) := ⟨hq.own, hq.bl.size⟩
          clear hq hX hj hlt HOW HTL HB6 HL6 hzl
          obtain ⟨Y, hY⟩ : ∃ Y, Y = textOf (layL l) := ⟨_, rfl⟩
          rw [← hY] at hcv kp hsz HSM HGO
          have HY : Hid (Y = textOf (layL l)) := hY
          clear hY
          have HZL2 : Hid ((layL l).length ≤ 4194304) := HZL.out
          generalize hN : (layL l).length = N at *
          generalize hP : prsN Y = P at *
          have HP : Hid (prsN Y = P) := hP
          have HNN : Hid ((layL l).length = N) := hN
          clear hP hN
          go_wp2_with fail
          refine kp.mono ?_
          rintro e w8 ⟨hp, hb8⟩
          have HB8 : Hid (Below w.heap.size w w8) := HBZ.out.trans (hb8.mono HBZ.out.size)
          obtain ⟨po, pc, he, hat, _, _⟩ := hp
          rw [HP.out] at he hat
          subst he
          have HL8 : Hid (BlksAt w8 lo l ∧ BlksAt w8 po P.1) := ⟨HLZ.out.below hb8, hat⟩
          have HQ8 : Hid (w8.ownsRow w6.heap.size 5 1 (.slice ao N cap) N (byteVals (layL l))) := owns_below HQO.out.1 hb8
          clear hb8 hat hcv kp HBZ HLZ HQO hsz
          have hll : l.length ≤ 9000000000000000 := by omega
          cases hm : mayS l
          · have HNO : Hid (mayS l = false) := hm
            have HS2 := HSM.out hm
            clear HGO HSM hm
            by_cases h0 : P.2.2 = 0
            · rw [h0]
              by_cases hnn : P.2.1 = N
              · have ks := (same_any l P.1 lo po lc pc w8 HL8.out.1 HL8.out.2 hll).mono fun e w' h => (show e = .returned (.bool false) ∧ Below w8.heap.size w8 w' by
                  obtain ⟨h3, n, h4⟩ := h
                  exact ⟨by rw [h3, HS2 h0], by rw [h4]; exact below_drewN (Below.refl _ _) n⟩)
                rw [hnn]
                clear HS2 h0 hnn hll HL8
                generalize P.1 = M at *
                go_wp2_with fail
                refine ks.mono ?_
                rintro e w9 ⟨rfl, hb9⟩
                have HB9 : Hid (Below w.heap.size w w9) := HB8.out.trans (hb9.mono HB8.out.size)
                clear hb9 ks
                go_wp2_with fail
                go_ret2
                exact ⟨.inr ⟨HNO.out, rfl⟩, HB9.out⟩
              · have bn : ((P.2.1 : Int) != (N : Int)) = true := by rw [bne_iff_ne]; omega
                clear HS2 h0 hnn hll HL8
                generalize P.1 = M at *
                generalize P.2.1 = nn at *
                go_wp2_with fail
                go_ret2
                exact ⟨.inr ⟨HNO.out, rfl⟩, HB8.out⟩
            · have bz : (P.2.2 != 0) = true := by rw [bne_iff_ne]; exact h0
              clear HS2 h0 hll HL8
              generalize P.1 = M at *
              generalize P.2.1 = nn at *
              generalize P.2.2 = E at *
              go_wp2_with fail
              go_ret2
              exact ⟨.inr ⟨HNO.out, rfl⟩, HB8.out⟩
          · have HYES : Hid (mayS l = true) := hm
            have hPe : P = (l, N, 0) := HGO.out hm
            subst hPe
            have ks := (same_any l l lo po lc pc w8 HL8.out.1 HL8.out.2 hll).mono fun e w' h => (show e = .returned (.bool true) ∧ Below w8.heap.size w8 w' by
              obtain ⟨h3, n, h4⟩ := h
              exact ⟨by rw [h3, sameL_self], by rw [h4]; exact below_drewN (Below.refl _ _) n⟩)
            clear HGO HSM hm hll HL8
            go_wp2_with fail
            refine ks.mono ?_
            rintro e w9 ⟨rfl, hb9⟩
            have HB9 : Hid (Below w.heap.size w w9) := HB8.out.trans (hb9.mono HB8.out.size)
            have hcv := conv_ownedB (owns_below HQ8.out hb9) HNN.out
            clear hb9 ks
            go_wp2_with fail
            go_ret2
            exact ⟨.inl ⟨HYES.out, rfl⟩, HB9.out⟩

end Go.Proofs.YtfmpiidnemhijaaDoor

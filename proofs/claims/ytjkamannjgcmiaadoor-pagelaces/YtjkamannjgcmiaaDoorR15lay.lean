/- Own text: the walk of the document's lay. -/
import Derived.Test.YtjkamannjgcmiaaDoorR15pkt
import Derived.Test.YtjkamannjgcmiaaDoorP15spo
import Derived.Deep.CutRange
namespace Go.Proofs.YtjkamannjgcmiaaDoor
open Go.RowKit
set_option linter.unusedSimpArgs false
set_option linter.unusedVariables false

def byteVals (bs : List Nat) : List Value := bs.map fun b : Nat => .int .u8 (b : Int)
/-- What lay answers. -/
def layV (p : Pg) (b : ByteArray) : Value := if numOk p then .tuple #[.string (textOf (layP p (bytesOf b))), .bool true] else .tuple #[.string ⟨#[]⟩, .bool false]
theorem layV_yes {p : Pg} (b : ByteArray) (h : numOk p) : layV p b = .tuple #[.string (textOf (layP p (bytesOf b))), .bool true] := if_pos h
theorem layV_no {p : Pg} (b : ByteArray) (h : ¬ numOk p) : layV p b = .tuple #[.string ⟨#[]⟩, .bool false] := if_neg h
theorem byteVals_append (a b : List Nat) : byteVals (a ++ b) = byteVals a ++ byteVals b := by unfold byteVals; rw [List.map_append]
theorem conv_owned {w : World} {base : Nat} {ao : Option Addr} {cap : Nat} {bs : List Nat} {n : Nat} (h : w.ownsRow base 5 1 (.slice ao n cap) n (byteVals bs)) (hn : bs.length = n) :
    (convert 51 9 (.slice ao n cap)).run Tryd.prog w = .ok (.string (textOf bs)) w := by
  subst hn
  obtain ⟨ao1, cap1, hv, _, _, _, hs⟩ := owns_shape h
  simp only [Value.slice.injEq, true_and] at hv
  obtain ⟨rfl, rfl⟩ := hv
  cases ao with
  | none =>
    have hb : bs = [] := by
      rcases h.2 with ⟨_, h0⟩ | ⟨g, cap', cur, hv, _⟩
      · exact List.eq_nil_of_length_eq_zero h0
      · cases hv
    subst hb
    exact run_convert_bytes_nil w 51 5 Tryd.underlying51 Tryd.underlying5 _ _ 9 Tryd.underlying9
  | some a =>
    obtain ⟨g, rfl⟩ : ∃ g, a = ⟨g, 0, none⟩ := ⟨_, (hs a rfl).1⟩
    rw [S2.textOf_eq]
    refine run_convert_bytes_arg w 51 5 Tryd.underlying51 Tryd.underlying5 g 0 bs.length cap _ (by simp) (fun i hi => ?_) 9 Tryd.underlying9
    rw [Nat.zero_add, h.cellAt i (by omega)]
    simp [byteVals, List.getD, hi]
theorem conv_one (w : World) (g x : Nat) (hx : x < 256) (h : w.heap[g]? = some (.cells #[.int .u8 (x : Int)] 5 (0, 0))) : (convert 51 9 (.slice (some ⟨g, 0, none⟩) 1 1)).run Tryd.prog w = .ok (.string (textOf [x])) w := by
  rw [S2.textOf_eq]
  refine run_convert_bytes_arg w 51 5 Tryd.underlying51 Tryd.underlying5 g 0 1 1 _ (by simp) (fun i hi => ?_) 9 Tryd.underlying9
  obtain rfl : i = 0 := by omega
  rw [cell_of_row _ _ _ _ _ _ h]
  rfl
theorem info5b : (Tryd.prog.info? 5).map (fun i => (i.zero, i.size, i.bytes)) = some (some (.int .u8 0), 1, 1) := by kernel_rfl
theorem nat_take (l : List Int) (j : Nat) (h : j < l.length) : (natL l).take (j + 1) = (natL l).take j ++ [(l.getD j 0).toNat] := by
  rw [List.take_succ_eq_append_getElem (by rw [natL_length]; exact h)]
  congr 1
  unfold natL
  rw [List.getElem_map, List.getD_eq_getElem?_getD, List.getElem?_eq_getElem h]
  rfl
theorem lac_get (l : List Int) (h : lacOk l) (j : Nat) (hj : j < l.length) : 0 ≤ l.getD j 0 ∧ l.getD j 0 ≤ 255 := by
  rw [List.getD_eq_getElem?_getD, List.getElem?_eq_getElem hj]
  exact h _ (List.getElem_mem hj)
theorem layP_lt (p : Pg) (b : List Nat) (hn : numOk p) (hl : lacOk p.la) (hb : ∀ x ∈ b, x < 256) : ∀ x ∈ layP p b, x < 256 := by
  intro x hx
  unfold layP at hx
  rcases List.mem_append.1 hx with hx | hx
  · rcases List.mem_append.1 hx with hx | hx
    · exact hdG_lt p hn x hx
    · exact S2.lowL_lt _ _ x hx
  · exact tlG_lt p b hn hl hb x hx
/-- A page's box; its bytes so far. -/
structure BX (w0 wx : World) (p : Pg) (ao : Option Addr) (c : Nat) : Prop where
  bx : Box wx w0.heap.size (pgC p ao c).toArray 49
  bl : Below w0.heap.size w0 wx
structure TQ (w0 wx : World) (p : Pg) (ao : Option Addr) (c : Nat) (v : Value) (X : List Nat) : Prop where
  bx : Box wx w0.heap.size (pgC p ao c).toArray 49
  bl : Below w0.heap.size w0 wx
  own : wx.ownsRow (w0.heap.size + 1) 5 1 v X.length (byteVals X)
section
variable {w0 wx w' : World} {p : Pg} {ao : Option Addr} {c : Nat} {v v' : Value} {X : List Nat} {z : Nat}
theorem BX.low (h : BX w0 wx p ao c) (hb : Below wx.heap.size wx w') : BX w0 w' p ao c := ⟨h.bx.keep hb, h.bl.trans (hb.mono h.bl.size)⟩
theorem TQ.low (h : TQ w0 wx p ao c v X) (hb : Below wx.heap.size wx w') : TQ w0 w' p ao c v X := ⟨h.bx.keep hb, h.bl.trans (hb.mono h.bl.size), owns_below h.own hb⟩
theorem TQ.lt1 (h : TQ w0 wx p ao c v X) : w0.heap.size + 1 ≤ wx.heap.size := h.bx.lt
theorem TQ.push (h : TQ w0 wx p ao c v X) (ho : w'.ownsRow (w0.heap.size + 1) 5 1 v' (X.length + 1) (byteVals X ++ [.int .u8 (z : Int)])) (hg : wx.grownBy w' v.ownBlock) : TQ w0 w' p ao c v' (X ++ [z]) := by
  have hne : ∀ k, k ≤ w0.heap.size → some k ≠ v.ownBlock := fun k hk e => by have := (h.own.lt k e.symm).1; omega
  refine ⟨⟨by rw [hg.block _ h.bx.lt (hne _ (Nat.le_refl _))]; exact h.bx.h⟩, grown_to hg h.bl h.bl.size (fun k e => by have := (h.own.lt k e).1; omega), ?_⟩
  rw [List.length_append, byteVals_append]
  exact ho
end
set_option maxRecDepth 20000 in
set_option maxHeartbeats 3200000 in
theorem xlay_any (p : Pg) (ao : Option Addr) (c : Nat) (b : ByteArray) (hb : b.size ≤ 100000000000000) (w : World) (hpa : IntsAt w ao p.la) (hlo : lacOk p.la) (hgr : p.gr ≤ 9223372036854775807) :
    Calls Tryd.prog 31 #[pgV p ao c, .string b] w fun e w' => e = .returned (layV p b) ∧ Below w.heap.size w w' := by
  have HPA := hid hpa
  have HLO := hid hlo
  have hpl := hpa.len
  have HX0 : Hid (BX w (w.alloc (.cells (pgC p ao c).toArray 49)) p ao c) := ⟨Box.new _ _ _, below_new _ _⟩
  have x0 := HX0.out.bx.c 0 (.int .i64 p.fl) rfl
  have x1 := HX0.out.bx.c 1 (.int .i64 p.se) rfl
  have x2 := HX0.out.bx.c 2 (.int .i64 p.sq) rfl
  have x3 := HX0.out.bx.c 3 (.int .i64 p.gr) rfl
  have x4 := HX0.out.bx.c 4 (.slice ao p.la.length c) rfl
  clear hpa hlo
  by_cases hn : numOk p
  · have HNK := hid hn
    have HPB : Hid (∀ x ∈ layP p (bytesOf b), x < 256) := layP_lt p _ hn HLO.out (fun x hx => bytesOf_lt b x hx)
    have KL : Hid (∀ (n k : Nat), 1 ≤ k → k ≤ 8 → n < 256 ^ k → n < 9223372036854775808 → ∀ wx, Calls Tryd.prog 52 #[.int .i64 (n : Int), .int .i64 (k : Int)] wx fun e w' => e = .returned (.tuple #[.string (textOf (S2.lowL n k)), .int .i64 0]) ∧ Below wx.heap.size wx w') := fun n k h1 h8 hn h63 wx => by
      have hf : S2.fitsB (n : Int) (k : Int) = true := S2.fits_of_nat n k h1 h8 hn
      have h := S2.refle_spec (n : Int) (k : Int) (by omega) (by omega) wx
      rw [S2.leT_nat n k hf, S2.wE_yes _ _ hf] at h
      exact h
    obtain ⟨⟨f0, f1⟩, ⟨g0, g1⟩, ⟨s0, s1⟩, ⟨q0, q1⟩, hc⟩ := hn
    obtain ⟨f, hf⟩ : ∃ f : Nat, p.fl = (f : Int) := ⟨p.fl.toNat, by omega⟩
    obtain ⟨se, hse⟩ : ∃ f : Nat, p.se = (f : Int) := ⟨p.se.toNat, by omega⟩
    obtain ⟨sq, hsq⟩ : ∃ f : Nat, p.sq = (f : Int) := ⟨p.sq.toNat, by omega⟩
    obtain ⟨gr, hgr'⟩ : ∃ g, g = p.gr := ⟨_, rfl⟩
    have h44 : (256 : Nat) ^ 4 = 4294967296 := by decide
    have KS := KL.out se 4 (by decide) (by decide) (by omega) (by omega)
    have KQ := KL.out sq 4 (by decide) (by decide) (by omega) (by omega)
    have hf7 : f ≤ 7 := by omega
    have HGT : Hid (bytesOf (textOf (layG gr)) = layG gr ∧ (textOf (layG gr)).size = 8) := ⟨S2.bytesOf_textOf _ (by
      intro z hz
      unfold layG at hz
      split at hz
      · exact ff_lt z hz
      · exact S2.lowL_lt _ _ z hz), by rw [S2.textOf_size, layG_length]⟩
    have HHB0 : Hid (bytesOf (⟨#[79, 103, 103, 83, 0]⟩ ++ textOf [f] ++ textOf (layG gr) ++ textOf (S2.lowL se 4) ++ textOf (S2.lowL sq 4)) = hdG p) := by
      show _ = _
      simp only [S2.bytesOf_append, HGT.out.1, S2.bytesOf_textOf _ (S2.lowL_lt se 4), S2.bytesOf_textOf _ (S2.lowL_lt sq 4), S2.bytesOf_textOf [f] (by intro z hz; rw [List.mem_singleton] at hz; omega)]
      unfold hdG
      rw [hf, hse, hsq, hgr', Int.toNat_natCast, Int.toNat_natCast, Int.toNat_natCast]
      rfl
    have hzS : (textOf (S2.lowL se 4)).size = 4 := by rw [S2.textOf_size, S2.lowL_length]
    have hzQ : (textOf (S2.lowL sq 4)).size = 4 := by rw [S2.textOf_size, S2.lowL_length]
    have hzF : (textOf [f]).size = 1 := by rw [S2.textOf_size]; rfl
    have hzG := HGT.out.2
    have HGL : Hid (gr < 0 → textOf (layG gr) = ⟨#[255, 255, 255, 255, 255, 255, 255, 255]⟩) := fun h => by unfold layG; rw [if_pos h]; rfl
    have HGH : Hid (¬ gr < 0 → ∀ wx, Calls Tryd.prog 52 #[.int .i64 gr, .int .i64 8] wx fun e w' => e = .returned (.tuple #[.string (textOf (layG gr)), .int .i64 0]) ∧ Below wx.heap.size wx w') := fun h wx => by
      have e := KL.out gr.toNat 8 (by decide) (by decide) (by have : (256 : Nat) ^ 8 = 18446744073709551616 := by decide
                                                              omega) (by omega) wx
      rw [Int.toNat_of_nonneg (by omega)] at e
      unfold layG
      rw [if_neg h]
      exact e
    rw [hf] at x0 f0 f1
    rw [hse] at x1 s0 s1
    rw [hsq] at x2 q0 q1
    rw [← hgr'] at x3 g0 g1
    have HXV : Hid (∀ wx, BX w wx p ao c → wx.cell? ⟨w.heap.size, 0, none⟩ = some (.int .i64 (f : Int)) ∧ wx.cell? ⟨w.heap.size, 1, none⟩ = some (.int .i64 (se : Int)) ∧ wx.cell? ⟨w.heap.size, 2, none⟩ = some (.int .i64 (sq : Int)) ∧ wx.cell? ⟨w.heap.size, 3, none⟩ = some (.int .i64 gr) ∧ wx.cell? ⟨w.heap.size, 4, none⟩ = some (.slice ao p.la.length c)) := fun wx h => ⟨by rw [← hf]; exact h.bx.c 0 _ rfl, by rw [← hse]; exact h.bx.c 1 _ rfl, by rw [← hsq]; exact h.bx.c 2 _ rfl, by rw [hgr']; exact h.bx.c 3 _ rfl, h.bx.c 4 _ rfl⟩
    have HCF := hid (⟨hf, hse, hsq, hgr'⟩ : p.fl = (f : Int) ∧ p.se = (se : Int) ∧ p.sq = (sq : Int) ∧ gr = p.gr)
    clear hf hse hsq hgr' hgr HGT h44
    generalize textOf (layG gr) = GT at *
    generalize textOf (S2.lowL se 4) = ST at *
    generalize textOf (S2.lowL sq 4) = QT at *
    go_enter Tryd.func31, Tryd.ntmps31
    go_upto_if 58 with fail
    clear x0 x1 x2 x3 x4
    generalize World.alloc w _ = wa at *
    obtain ⟨x0, x1, x2, x3, x4⟩ := HXV.out wa HX0.out
    go_cut [6] from 56 to 64 (fun s6 wx => s6 = .string GT ∧ BX w wx p ao c)
    case first =>
      by_cases hg : gr < 0
      · have e := HGL.out hg
        have HE := hid e
        clear e HGL HGH
        go_wp2_with fail
        go_meet
        exact ⟨by rw [HE.out], HX0.out⟩
      · have hg' : 0 ≤ gr := by omega
        have kg := HGH.out hg wa
        clear hg HGL HGH
        go_wp2_with fail
        refine kg.mono ?_
        rintro e w2 ⟨rfl, hb2⟩
        have H2 := hid (HX0.out.low hb2)
        clear kg hb2
        go_wp2_with fail
        go_meet
        refine ⟨?_, H2.out⟩
        rfl
    case rest =>
      obtain ⟨rfl, hx⟩ := hcut
      have H2 := hid hx
      clear x0 x1 x2 x3 x4 HX0 HGL HGH hx
      obtain ⟨x0, x1, x2, x3, x4⟩ := HXV.out wc H2.out
      have ks := KS wc
      go_wp2_with fail
      clear x0 x1 x2 x3 x4
      refine ks.mono ?_
      rintro e w3 ⟨rfl, hb3⟩
      have H3 := hid (H2.out.low hb3)
      obtain ⟨x0, x1, x2, x3, x4⟩ := HXV.out w3 H3.out
      have kq := KQ w3
      clear ks hb3 H2 KS
      go_wp2_with fail
      clear x0 x1 x2 x3 x4
      refine kq.mono ?_
      rintro e w4 ⟨rfl, hb4⟩
      have H4 := hid (H3.out.low hb4)
      obtain ⟨x0, x1, x2, x3, x4⟩ := HXV.out w4 H4.out
      clear kq hb4 H3 KQ
      obtain ⟨FT, hFT⟩ : ∃ FT, FT = textOf [f] := ⟨_, rfl⟩
      have hcf := conv_one (w4.alloc (.cells #[.int .u8 (f : Int)] 5)) w4.heap.size f (by omega) (heap_alloc_new _ _)
      rw [← hFT] at hcf HHB0 hzF
      clear hFT
      have hzf2 : ({ data := #[79, 103, 103, 83, 0] } : ByteArray).size = 5 := rfl
      go_upto_region 9 with fail
      clear hcf x0 x1 x2 x3
      have H5a := hid (H4.out.low (below_new w4 (.cells #[.int .u8 (f : Int)] 5)))
      clear H4 hzf2
      obtain ⟨w5, hw5⟩ : ∃ w5, w5 = World.alloc w4 (.cells #[.int .u8 (f : Int)] 5) := ⟨_, rfl⟩
      rw [← hw5] at H5a
      rw [← hw5]
      clear hw5
      obtain ⟨hT, hhT⟩ : ∃ hT, hT = (⟨#[79, 103, 103, 83, 0]⟩ : ByteArray) ++ FT ++ GT ++ ST ++ QT := ⟨_, rfl⟩
      have hTz3 : hT.size = 22 := by rw [hhT]; simp only [ByteArray.size_append, hzF, hzG, hzS, hzQ]; rfl
      have HHB : Hid (bytesOf hT = hdG p) := by show _ = _; rw [hhT]; exact HHB0.out
      rw [← hhT]
      clear hhT HHB0 hzF hzG hzS hzQ
      have x4 := H5a.out.bx.c 4 (.slice ao p.la.length c) rfl
      have HT0 : Hid (TQ w (w5.alloc (.cells #[.int .u8 (p.la.length : Int)] 5)) p ao c (.slice (some ⟨w5.heap.size, 0, none⟩) 1 1) ([p.la.length] ++ (natL p.la).take 0)) := ⟨(H5a.out.low (below_new _ _)).bx, (H5a.out.low (below_new _ _)).bl, World.ownsRow_lit w5 #[.int .u8 (p.la.length : Int)] 1 H5a.out.bx.lt (by decide) rfl⟩
      obtain ⟨i5, hj0, hj1, hj2, hj3⟩ := info_parts5 info5b
      have H5 : Hid (Tryd.prog.info? 5 = some i5 ∧ i5.zero = some (.int .u8 0) ∧ i5.size = 1 ∧ i5.bytes = 1) := ⟨hj0, hj1, hj2, hj3⟩
      clear hj0 hj1 hj2 hj3 H5a
      go_wp2_with fail
      go_loopw [12, 13] (fun s12 s13 wr => ∃ j : Nat, j ≤ p.la.length ∧ s13 = .int .i64 (j : Int) ∧ TQ w wr p ao c s12 ([p.la.length] ++ (natL p.la).take j)) (fun _ s13 _ => p.la.length - (intOf s13).toNat)
      case atStart => exact ⟨0, Nat.zero_le _, rfl, HT0.out⟩
      case round =>
        clear HT0
        obtain ⟨j, hj, rfl, ht⟩ := hrel
        have hXl : ([p.la.length] ++ (natL p.la).take j).length = j + 1 := by rw [List.length_append, List.length_take, natL_length, List.length_singleton]; omega
        have HXS : Hid (j < p.la.length → [p.la.length] ++ (natL p.la).take (j + 1) = ([p.la.length] ++ (natL p.la).take j) ++ [(p.la.getD j 0).toNat]) := fun h => by
          rw [List.append_assoc, nat_take p.la j h]
        have HXE : Hid (j = p.la.length → [p.la.length] ++ (natL p.la).take j ++ bytesOf b = tlG p (bytesOf b)) := fun h => by
          rw [List.take_of_length_le (by rw [natL_length]; omega)]
          rfl
        have HX256 : Hid (∀ z ∈ [p.la.length] ++ (natL p.la).take j, z < 256) := fun z hz => by
          rcases List.mem_append.1 hz with hz | hz
          · rw [List.mem_singleton] at hz; omega
          · exact natL_lt _ HLO.out z (List.mem_of_mem_take hz)
        have HTA := hid ht
        clear ht
        generalize [p.la.length] ++ (natL p.la).take j = X at *
        obtain ⟨ta, tc, ev, _⟩ := owns_shape HTA.out.own
        subst ev
        have HT : Hid (TQ w wr p ao c (.slice ta X.length tc) X) := HTA.out
        have x4 := HT.out.bx.c 4 _ rfl
        have hX : X.length ≤ 256 := by omega
        clear HTA
        by_cases hlt : j < p.la.length
        · have HXS2 := hid (HXS.out hlt)
          have hxr := lac_get p.la HLO.out j hlt
          obtain ⟨b2, o2, rfl, q2⟩ := HPA.out.at j hlt
          have r1 := q2 wr HT.out.bl
          clear q2 HXS HXE HX256 hXl
          obtain ⟨z, hz⟩ : ∃ z : Nat, p.la.getD j 0 = (z : Int) := ⟨(p.la.getD j 0).toNat, by omega⟩
          have hz255 : z ≤ 255 := by omega
          rw [hz] at r1 HXS2
          clear hz hxr
          go_wp2_with (at_builtin; go_loud (refine wpList_append_row _ rfl (.tmp 101) (.tmp 108) 51 rfl (w.heap.size + 1) 5 i5 (.int .u8 0) 1 1 Tryd.underlying51 H5.out.1 H5.out.2.1 H5.out.2.2.1 H5.out.2.2.2 rfl (by decide) (.slice ta X.length tc) X.length _ rfl (HT.out.low (below_new _ _)).own ⟨wr.heap.size, 0, none⟩ 1 1 [.int .u8 (z : Int)] rfl rfl (one_new wr _ _) (by simp [Value.oneCell']) (by simp only [maxLen]; omega) (by omega) (HT.out.low (below_new _ _)).lt1 ?_); intro v6 w6 ho6 hg6 hx6)
          have HT6 : Hid (TQ w w6 p (some ⟨b2, o2, none⟩) c v6 (X ++ [z])) := (HT.out.low (below_new _ _)).push ho6.out hg6.out
          clear HT ho6 hg6 hx6 x4 r1
          try go_wp2_with fail
          go_roundw
          case rel => exact ⟨j + 1, by omega, by go_num, by rw [HXS2.out]; exact HT6.out⟩
          case measure => simp [intOf]; omega
        · have HXE2 := hid (HXE.out (by omega))
          have hcv := conv_owned HT.out.own rfl
          have hTz : (textOf X).size ≤ 256 := by rw [S2.textOf_size]; omega
          have HTB : Hid (bytesOf (textOf X ++ b) = tlG p (bytesOf b)) := by
            show _ = _
            rw [S2.bytesOf_append, S2.bytesOf_textOf _ HX256.out, HXE2.out]
          clear HXS HXE HXE2 HX256 hXl
          generalize textOf X = TX at *
          have hm1 : ¬ (9223372036854775807 : Int) < (TX.size : Int) + (b.size : Int) := by omega
          have hm2 : ¬ (9223372036854775807 : Int) < (hT.size : Int) + 4 := by omega
          obtain ⟨tT, htT⟩ : ∃ tT, tT = TX ++ b := ⟨_, rfl⟩
          have htz : tT.size ≤ 100000000000256 := by rw [htT, ByteArray.size_append]; omega
          rw [← htT] at HTB
          have hTe : TX ++ b = tT := htT.symm
          clear htT
          obtain ⟨og, hog⟩ : ∃ og, og = oggN (hdG p ++ zer4 ++ tlG p (bytesOf b)) := ⟨_, rfl⟩
          have hogl : og < 4294967296 := by rw [hog]; exact ogg_lt _
          have KO : ∀ wx, Calls Tryd.prog 42 #[.string (hT ++ ⟨#[0, 0, 0, 0]⟩ ++ tT)] wx fun e w' => e = .returned (.int .i64 (og : Int)) ∧ w' = wx := fun wx => by
            have h := S3.refOgg_spec (hT ++ ⟨#[0, 0, 0, 0]⟩ ++ tT) (by rw [ByteArray.size_append, ByteArray.size_append, hTz3]; show 22 + 4 + tT.size ≤ _; omega) wx
            have e : S3.c32 (hT ++ ⟨#[0, 0, 0, 0]⟩ ++ tT) = og := by
              rw [hog]
              show oggN (bytesOf (hT ++ ⟨#[0, 0, 0, 0]⟩ ++ tT)) = _
              rw [S2.bytesOf_append, S2.bytesOf_append, HHB.out, HTB.out]
              rfl
            rw [e] at h
            exact h
          have KL4 := KL.out og 4 (by decide) (by decide) (Nat.lt_of_lt_of_le hogl (by decide)) (by omega)
          have HSB : Hid (bytesOf (textOf (S2.lowL og 4)) = S2.lowL og 4) := S2.bytesOf_textOf _ (S2.lowL_lt _ _)
          have hsz4 : (textOf (S2.lowL og 4)).size = 4 := by rw [S2.textOf_size, S2.lowL_length]
          have HRES : Hid (hT ++ textOf (S2.lowL og 4) ++ tT = textOf (layP p (bytesOf b))) := by
            apply bytes_inj
            rw [S2.bytesOf_append, S2.bytesOf_append, HSB.out, HHB.out, HTB.out, S2.bytesOf_textOf _ HPB.out]
            unfold layP
            rw [hog]
          have hm3 : ¬ (9223372036854775807 : Int) < (hT.size : Int) + 4 + (tT.size : Int) := by omega
          have HTL := hid HT.out.bl
          clear hog HTB HSB HT
          generalize textOf (S2.lowL og 4) = sT at *
          go_wp2_with fail
          clear hcv hTe
          refine (KO _).mono ?_
          rintro e w8 ⟨rfl, rfl⟩
          go_wp2_with fail
          refine (KL4 _).mono ?_
          rintro e w9 ⟨rfl, hb9⟩
          have HB9 : Hid (Below w.heap.size w w9) := below_on HTL.out HTL.out.size hb9
          clear hb9 KO KL4 HTL x4
          go_wp2_with fail
          go_ret2
          exact ⟨by rw [layV_yes b HNK.out, ← HRES.out]; rfl, HB9.out⟩
  · have HNO := hid hn
    have hd : p.fl < 0 ∨ (0 ≤ p.fl ∧ 7 < p.fl) ∨ (0 ≤ p.fl ∧ p.fl ≤ 7 ∧ p.gr < -1) ∨ (0 ≤ p.fl ∧ p.fl ≤ 7 ∧ -1 ≤ p.gr ∧ p.se < 0) ∨ (0 ≤ p.fl ∧ p.fl ≤ 7 ∧ -1 ≤ p.gr ∧ 0 ≤ p.se ∧ 4294967295 < p.se) ∨ (0 ≤ p.fl ∧ p.fl ≤ 7 ∧ -1 ≤ p.gr ∧ 0 ≤ p.se ∧ p.se ≤ 4294967295 ∧ p.sq < 0) ∨ (0 ≤ p.fl ∧ p.fl ≤ 7 ∧ -1 ≤ p.gr ∧ 0 ≤ p.se ∧ p.se ≤ 4294967295 ∧ 0 ≤ p.sq ∧ 4294967295 < p.sq) ∨ (0 ≤ p.fl ∧ p.fl ≤ 7 ∧ -1 ≤ p.gr ∧ 0 ≤ p.se ∧ p.se ≤ 4294967295 ∧ 0 ≤ p.sq ∧ p.sq ≤ 4294967295 ∧ 255 < p.la.length) := by
      have q : ¬ ((0 ≤ p.fl ∧ p.fl ≤ 7) ∧ (-1 ≤ p.gr ∧ p.gr ≤ 9223372036854775807) ∧ (0 ≤ p.se ∧ p.se ≤ 4294967295) ∧ (0 ≤ p.sq ∧ p.sq ≤ 4294967295) ∧ p.la.length ≤ 255) := hn
      omega
    clear hn
    rcases hd with h | ⟨h, h1⟩ | ⟨h, h1, h2⟩ | ⟨h, h1, h2, h3⟩ | ⟨h, h1, h2, h3, h4⟩ | ⟨h, h1, h2, h3, h4, h5⟩ | ⟨h, h1, h2, h3, h4, h5, h6⟩ | ⟨h, h1, h2, h3, h4, h5, h6, h7⟩
    all_goals
      go_enter Tryd.func31, Tryd.ntmps31
      go_wp2_with fail
      go_ret2
      exact ⟨by rw [layV_no b HNO.out]; rfl, HX0.out.bl⟩

end Go.Proofs.YtjkamannjgcmiaaDoor

/- Own text: the walk of Parse. -/
import Derived.Test.YtfmpiidnemhijaaDoorQ13mem
namespace Go.Proofs.YtfmpiidnemhijaaDoor
open Go.RowKit
set_option linter.unusedSimpArgs false
set_option linter.unusedVariables false

theorem own_stays {w w' : World} {base e z : Nat} {v : Value} {n x : Nat} {xs : List Value} (h : w.ownsRow base e z v n xs) (hs : Stays (only x) w w') (hx : x < base) : w'.ownsRow base e z v n xs := by
  refine h.kept (row := some x) ⟨hs.os, hs.tape, hs.output, hs.size, fun k hk hne => hs.block k hk (fun q => hne (by rw [q]))⟩ ?_
  cases hv : v.ownBlock with
  | none => exact .inl rfl
  | some k =>
    right
    intro q
    have := (h.lt k hv).1
    cases q
    omega
theorem own_set {w : World} {base e z : Nat} {v : Value} {n q j : Nat} {u : Value} {xs : List Value} (h : w.ownsRow base e z v n xs) (hq : ∀ k, v.ownBlock = some k → k < q) : (w.setCell ⟨q, j, none⟩ u).ownsRow base e z v n xs := by
  refine h.kept (row := some q) ⟨rfl, rfl, rfl, by simp [World.setCell], fun k hk hne => Below.heap_setCell _ _ _ _ (fun r => hne (by rw [r]))⟩ ?_
  cases hv : v.ownBlock with
  | none => exact .inl rfl
  | some k =>
    right
    intro r
    have := hq k hv
    cases r
    omega
/-- Parse's boxes: the row of blocks that are known, the walk, the answer's row. -/
structure PX (w0 wx : World) (s : ByteArray) (a : Nat) (L : List Blk) (c : Nat) (hc : Bool) (v : Value) : Prop where
  row : Rw wx w0.heap.size c hc
  wk : Wo wx (w0.heap.size + 1) s (some a)
  own : wx.ownsRow (w0.heap.size + 2) 36 2 v L.length (bcells L)
  bl : Below w0.heap.size w0 wx
section
variable {w0 wx w' : World} {s : ByteArray} {a a' c c' : Nat} {L : List Blk} {hc hc' : Bool} {v v' : Value} {b : Blk} {q j : Nat} {u : Value}
theorem PX.low (h : PX w0 wx s a L c hc v) (hb : Below wx.heap.size wx w') : PX w0 w' s a L c hc v := ⟨h.row.low hb, h.wk.below hb, owns_below h.own hb, h.bl.trans (hb.mono h.bl.size)⟩
theorem PX.blk (h : PX w0 wx s a L c hc v) (hs : Stays (only (w0.heap.size + 1)) wx w') (hw : Wo w' (w0.heap.size + 1) s (some a')) : PX w0 w' s a' L c hc v :=
  ⟨h.row.keep (hs.block _ h.row.lt (fun q => by have : w0.heap.size = w0.heap.size + 1 := q; omega)), hw, own_stays h.own hs (by omega), h.bl.trans (only_below hs h.bl.size (by omega))⟩
theorem PX.tak (h : PX w0 wx s a L c hc v) (hs : Stays (only w0.heap.size) wx w') (hr : Rw w' w0.heap.size c' hc') : PX w0 w' s a L c' hc' v :=
  ⟨hr, h.wk.keep (hs.block _ h.wk.lt (fun q => by have : w0.heap.size + 1 = w0.heap.size := q; omega)), own_stays h.own hs (by omega), h.bl.trans (only_below hs h.bl.size (Nat.le_refl _))⟩
theorem PX.set (h : PX w0 wx s a L c hc v) (hq : w0.heap.size + 1 < q) (ho : ∀ k, v.ownBlock = some k → k < q) : PX w0 (wx.setCell ⟨q, j, none⟩ u) s a L c hc v :=
  ⟨h.row.keep (Below.heap_setCell _ _ _ _ (by show w0.heap.size ≠ q; omega)), h.wk.keep (Below.heap_setCell _ _ _ _ (by show w0.heap.size + 1 ≠ q; omega)), own_set h.own ho, h.bl.setCell (by show w0.heap.size ≤ q; omega) _⟩
theorem PX.push (h : PX w0 wx s a L c hc v) (ho : w'.ownsRow (w0.heap.size + 2) 36 2 v' (L.length + 1) (bcells L ++ [.int .i64 b.ty, .string b.body])) (hg : wx.grownBy w' v.ownBlock) : PX w0 w' s a (L ++ [b]) c hc v' := by
  have hne : ∀ k, k < w0.heap.size + 2 → some k ≠ v.ownBlock := fun k hk e => by have := (h.own.lt k e.symm).1; omega
  refine ⟨h.row.keep (hg.block _ h.row.lt (hne _ (by omega))), h.wk.keep (hg.block _ h.wk.lt (hne _ (by omega))), by rw [bcells_snoc, List.length_append]; exact ho, grown_to hg h.bl h.bl.size (fun k e => by have := (h.own.lt k e).1; omega)⟩
theorem PX.olt (h : PX w0 wx s a L c hc v) : ∀ k, v.ownBlock = some k → k < wx.heap.size := fun k e => (h.own.lt k e).2
end
def lenV : Value → Nat
  | .slice _ n _ => n
  | _ => 0
/-- Where a loop of Parse stands. -/
def PrsAt (s : ByteArray) (a : Nat) (L : List Blk) (last : Bool) : Prop := L.length ≤ 1024 ∧ (if last then prsN s = (L, a, 0) else prsN s = prs s (1025 - L.length) a L (L.any fun x => decide (x.ty = 4)))
def PrsE (s : ByteArray) (e : Ending) (w' : World) : Prop := ∃ ao cap, e = .returned (.tuple #[.slice ao (prsN s).1.length cap, .int .i64 ((prsN s).2.1 : Int), .int .i64 (prsN s).2.2]) ∧ BlksAt w' ao (prsN s).1 ∧ (prsN s).1.length ≤ cap ∧ (ao = none → cap = 0)
set_option maxRecDepth 20000 in
set_option maxHeartbeats 3200000 in
theorem parse_any (s : ByteArray) (hs : s.size ≤ 140737488351232) (w : World) (hW : WidAt w) :
    Calls Tryd.prog 15 #[.string s] w fun e w' => PrsE s e w' ∧ Below w.heap.size w w' := by
  have hgw : 0 < w.heap.size := hW.lt
  have HP0 : Hid (PX w ((w.alloc (.cells #[.int .i64 0, .bool false] 70)).alloc (.cells #[.string s, .bool false] 72)) s 0 [] 0 false noS) := by
    refine ⟨?_, ⟨Nat.zero_le _, ?_⟩, World.ownsRow_nil _ _ _ _, ((Below.refl _ _).alloc (Nat.le_refl _) _).alloc (by simp) _⟩
    · unfold Rw
      rw [Below.heap_alloc _ _ _ (by simp)]
      exact heap_alloc_new _ _
    · rw [ext_all]
      have hh := heap_alloc_new (w.alloc (.cells #[.int .i64 0, .bool false] 70)) (.cells #[.string s, .bool false] 72)
      rw [show (w.alloc (.cells #[.int .i64 0, .bool false] 70)).heap.size = w.heap.size + 1 from by simp] at hh
      exact hh
  have KB : Hid (∀ o wx, Wo wx (w.heap.size + 1) s o → Calls Tryd.prog 30 #[.pointer (some ⟨w.heap.size + 1, 0, none⟩)] wx fun e w' => e = .returned (.tuple #[blkV (bkB s o), .bool (decide (128 ≤ numO s o 1))]) ∧ Wo w' (w.heap.size + 1) s (bkO s o) ∧ Stays (only (w.heap.size + 1)) wx w') := fun o wx h => block_any _ s hs o wx h
  have KT : Hid (∀ c hc b wx, c ≤ 1024 → b.body.size ≤ 140737488351232 → Below w.heap.size w wx → Rw wx w.heap.size c hc → Calls Tryd.prog 31 #[.pointer (some ⟨w.heap.size, 0, none⟩), blkV b] wx fun e w' => RtP wx w.heap.size c hc b e w') := fun c hc b wx h1 h2 h3 h4 => rtake_any _ c hc h1 b h2 wx (hW.below h3) hgw h4
  have KC : Hid (∀ x wx, x.size ≤ 140737488351232 → Calls Tryd.prog 32 #[.string x] wx fun e w' => e = .returned (.string x) ∧ Below wx.heap.size wx w') := fun x wx hx => clone_spec x wx (by omega)
  have HST0 : Hid (PrsAt s 0 [] false) := ⟨by simp, rfl⟩
  obtain ⟨iK, hK0, hK1, hK2, hK3⟩ := info_parts5 infoB2
  have HIK : Hid (Tryd.prog.info? 36 = some iK ∧ iK.zero = some (.agg zeroB) ∧ iK.size = 2 ∧ iK.bytes = 24) := ⟨hK0, hK1, hK2, hK3⟩
  clear hK0 hK1 hK2 hK3 hW
  go_enter Tryd.func15, Tryd.ntmps15
  go_wp2_with fail
  generalize hwa : World.alloc (World.alloc w _) _ = wa
  have HPA : Hid (PX w wa s 0 [] 0 false noS) := by rw [← hwa]; exact HP0.out
  clear hwa HP0
  go_loopw [5, 8] (fun g t wr => ∃ (a : Nat) (L : List Blk) (last : Bool), t = .bool last ∧ PrsAt s a L last ∧ PX w wr s a L L.length (L.any fun x => decide (x.ty = 4)) g) (fun g t _ => 1025 - lenV g)
  case atStart => exact ⟨0, [], false, rfl, HST0.out, HPA.out⟩
  case round =>
    clear HPA HST0
    obtain ⟨a, L, last, rfl, hst, hpx⟩ := hrel
    obtain ⟨ao, cap, hg, _⟩ := BlksAt.own hpx.own
    subst hg
    have hL := hst.1
    have HST : Hid (PrsAt s a L last) := hst
    have HPX : Hid (PX w wr s a L L.length (L.any fun x => decide (x.ty = 4)) (.slice ao L.length cap)) := hpx
    clear hst hpx
    cases last
    · have HP : Hid (prsN s = prs s (1025 - L.length) a L (L.any fun x => decide (x.ty = 4))) := HST.out.2
      have hfu : 1025 - L.length = (1024 - L.length) + 1 := by omega
      rw [hfu] at HP
      generalize hhc : (L.any fun x => decide (x.ty = 4)) = hc at *
      have HHC : Hid ((L.any fun x => decide (x.ty = 4)) = hc) := hhc
      clear hhc
      clear HST
      obtain ⟨q, hq⟩ : ∃ q, q = wr.heap.size := ⟨_, rfl⟩
      have HPQ : Hid (PX w (wr.alloc (.cells zeroB 36)) s a L L.length hc (.slice ao L.length cap) ∧ (wr.alloc (.cells zeroB 36)).heap[q]? = some (.cells zeroB 36 (0, 0)) ∧ w.heap.size + 1 < q ∧ (∀ k, (Value.slice ao L.length cap).ownBlock = some k → k < q)) := by
        refine ⟨HPX.out.low ((Below.refl _ _).alloc (Nat.le_refl _) _), by rw [hq]; exact heap_alloc_new _ _, by have := HPX.out.wk.lt; omega, fun k e => by rw [hq]; exact HPX.out.olt k e⟩
      have HQW : Hid (wr.heap.size = q) := hq.symm
      clear hq HPX
      go_wp2_with fail
      rw [HQW.out]
      generalize World.alloc wr _ = w1 at *
      refine (KB.out (some a) _ HPQ.out.1.wk).mono ?_
      rintro e w2 ⟨rfl, hw2, hs2⟩
      have HQ2 : Hid (w2.heap[q]? = some (.cells zeroB 36 (0, 0)) ∧ w.heap.size + 1 < q ∧ (∀ k, (Value.slice ao L.length cap).ownBlock = some k → k < q)) := ⟨by rw [hs2.block _ (lt_of_block HPQ.out.2.1) (fun r => by have : q = w.heap.size + 1 := r; have := HPQ.out.2.2.1; omega)]; exact HPQ.out.2.1, HPQ.out.2.2⟩
      have HS2 : Hid (Stays (only (w.heap.size + 1)) w1 w2) := hs2
      have HW2 : Hid (Wo w2 (w.heap.size + 1) s (bkO s (some a))) := hw2
      clear hw2 hs2 KB
      have a0 : w2.cell? ⟨q, 0, none⟩ = some (.int .i64 0) := by rw [cell_of_row _ _ _ _ _ _ HQ2.out.1]; rfl
      have a1 : w2.cell? ⟨q, 1, none⟩ = some (.string ⟨#[]⟩) := by rw [cell_of_row _ _ _ _ _ _ HQ2.out.1]; rfl
      have f0 := fz_of HQ2.out.1 0
      have f1 := fz_of HQ2.out.1 1
      by_cases hb : hasB s a
      · obtain ⟨e1, e2, e3⟩ := bk_yes hb
        rw [e1, e3]
        have HPX2 : Hid (PX w w2 s (nxtN s a) L L.length hc (.slice ao L.length cap)) := HPQ.out.1.blk HS2.out (by rw [← e2]; exact HW2.out)
        have HPS : Hid (prsN s = if rtE L.length hc (blkN s a) = 0 then (if 128 ≤ numA s a 1 then (L ++ [blkN s a], nxtN s a, 0) else prs s (1024 - L.length) (nxtN s a) (L ++ [blkN s a]) (cmt hc (blkN s a))) else ([], 0, rtE L.length hc (blkN s a))) := HP.out.trans (by rw [prs, if_pos hb])
        have hbs : (blkN s a).body.size ≤ 140737488351232 := by
          have := ext_le s (a + 4) (a + 4 + numA s (a + 1) 3)
          have h3 := numA_lt s (a + 1) 3 (by decide)
          have h256 : (256 : Nat) ^ 3 = 16777216 := by decide
          show (s.extract _ _).size ≤ _
          omega
        clear HPQ HS2 HW2 e1 e2 e3 hb HP
        generalize hlst : decide (128 ≤ numA s a 1) = lst at *
        have HLS : Hid (decide (128 ≤ numA s a 1) = lst) := hlst
        clear hlst
        have c1 : w2.cell? ⟨w.heap.size + 1, 1, none⟩ = some (.bool false) := HPX2.out.wk.2.c1
        have hne : ¬ q = w.heap.size + 1 := by have := HQ2.out.2.1; omega
        generalize blkN s a = b at *
        generalize nxtN s a = a' at *
        go_wp2_with fail
        clear a0 a1 f0 f1 c1
        generalize hw3 : World.setCell _ _ _ = w3
        have HPX3 : Hid (PX w w3 s a' L L.length hc (.slice ao L.length cap)) := by
          rw [← hw3]
          exact (HPX2.out.set HQ2.out.2.1 HQ2.out.2.2).set HQ2.out.2.1 HQ2.out.2.2
        have HQ3 : Hid (w3.heap[q]? = some (.cells (blkC b) 36 (0, 0)) ∧ w.heap.size + 1 < q ∧ (∀ k, (Value.slice ao L.length cap).ownBlock = some k → k < q)) := ⟨by rw [← hw3]; exact set2 _ _ _ _ _ _ rfl HQ2.out.1, HQ2.out.2⟩
        clear hw3 HPX2 HQ2
        refine (KT.out _ hc b w3 hL hbs HPX3.out.bl HPX3.out.row).mono ?_
        rintro e w4 h4
        have HR4 : Hid (RtP w3 w.heap.size L.length hc b e w4) := h4
        have he4 := h4.1
        subst he4
        have hsl := h4.2.1
        have HQ4 : Hid (w4.heap[q]? = some (.cells (blkC b) 36 (0, 0)) ∧ w.heap.size + 1 < q ∧ (∀ k, (Value.slice ao L.length cap).ownBlock = some k → k < q)) := ⟨by rw [hsl.block _ (lt_of_block HQ3.out.1) (fun r => by have : q = w.heap.size := r; have := HQ3.out.2.1; omega)]; exact HQ3.out.1, HQ3.out.2⟩
        have HB4 : Hid (Below w.heap.size w w4) := HPX3.out.bl.trans (only_below hsl HPX3.out.bl.size (Nat.le_refl _))
        clear h4 hsl
        by_cases h0 : rtE L.length hc b = 0
        · have HPX4 : Hid (PX w w4 s a' L (L.length + 1) (cmt hc b) (.slice ao L.length cap)) := HPX3.out.tak HR4.out.2.1 (HR4.out.2.2 h0)
          have HNL : Hid (L.length ≠ 1024) := (rtE_zero h0).2.2.2.1
          have HPS2 : Hid (prsN s = if 128 ≤ numA s a 1 then (L ++ [b], a', 0) else prs s (1024 - L.length) a' (L ++ [b]) (cmt hc b)) := HPS.out.trans (if_pos h0)
          rw [h0]
          have a0 : w4.cell? ⟨q, 0, none⟩ = some (.int .i64 b.ty) := by rw [cell_of_row _ _ _ _ _ _ HQ4.out.1]; rfl
          have a1 : w4.cell? ⟨q, 1, none⟩ = some (.string b.body) := by rw [cell_of_row _ _ _ _ _ _ HQ4.out.1]; rfl
          clear HPS HPX3 HQ3 HR4 h0 HB4
          go_wp2_with fail
          refine (KC.out _ _ hbs).mono ?_
          rintro e w5 ⟨rfl, hb5⟩
          have HPX5 : Hid (PX w w5 s a' L (L.length + 1) (cmt hc b) (.slice ao L.length cap)) := HPX4.out.low hb5
          have HQ5 : Hid (w5.heap[q]? = some (.cells (blkC b) 36 (0, 0)) ∧ w.heap.size + 1 < q ∧ (∀ k, (Value.slice ao L.length cap).ownBlock = some k → k < q)) := ⟨by rw [hb5.block _ (lt_of_block HQ4.out.1)]; exact HQ4.out.1, HQ4.out.2⟩
          clear hb5 HPX4 HQ4 a0 a1 KC
          have a0 : w5.cell? ⟨q, 0, none⟩ = some (.int .i64 b.ty) := by rw [cell_of_row _ _ _ _ _ _ HQ5.out.1]; rfl
          have a1 : w5.cell? ⟨q, 1, none⟩ = some (.string b.body) := by rw [cell_of_row _ _ _ _ _ _ HQ5.out.1]; rfl
          have f1 := fz_of HQ5.out.1 1
          have HPX6 : Hid (PX w ((w5.setCell ⟨q, 1, none⟩ (.string b.body)).alloc (.cells (blkC b) 36)) s a' L (L.length + 1) (cmt hc b) (.slice ao L.length cap)) := (HPX5.out.set HQ5.out.2.1 HQ5.out.2.2).low ((Below.refl _ _).alloc (Nat.le_refl _) _)
          have HNW : Hid (∀ j u, [Value.int .i64 b.ty, .string b.body][j]? = some u → ((w5.setCell ⟨q, 1, none⟩ (.string b.body)).alloc (.cells (blkC b) 36)).cell? ((⟨w5.heap.size, 0, none⟩ : Addr).add j) = some u) := fun j u hj => by
            have := two_cells (w := w5.setCell ⟨q, 1, none⟩ (.string b.body)) (e := 36) j u hj
            rwa [show (w5.setCell ⟨q, 1, none⟩ (.string b.body)).heap.size = w5.heap.size from by simp [World.setCell]] at this
          clear HPX5 HQ5
          go_wp2_with (at_builtin; refine wpList_append_row _ rfl (.tmp 30) (.tmp 32) 40 rfl (w.heap.size + 2) 36 iK (.agg zeroB) 2 24 Tryd.underlying40 HIK.out.1 HIK.out.2.1 HIK.out.2.2.1 HIK.out.2.2.2 rfl (by decide) (.slice ao L.length cap) L.length _ rfl HPX6.out.own ⟨w5.heap.size, 0, none⟩ 1 1 [.int .i64 b.ty, .string b.body] rfl rfl HNW.out (by simp [Value.oneCell']) (by simp only [maxLen]; omega) (by omega) HPX6.out.wk.lt ?_; intro v6 w6 ho6 hg6 hx6)
          have HPX7 : Hid (PX w w6 s a' (L ++ [b]) (L.length + 1) (cmt hc b) v6) := HPX6.out.push ho6.out hg6.out
          have HLV : Hid (lenV v6 = L.length + 1) := by
            obtain ⟨ao7, cap7, e7, _⟩ := BlksAt.own HPX7.out.own
            show lenV v6 = _
            rw [e7, List.length_append]
            rfl
          have HNX : Hid (PrsAt s a' (L ++ [b]) lst ∧ PX w w6 s a' (L ++ [b]) (L ++ [b]).length ((L ++ [b]).any fun x => decide (x.ty = 4)) v6) := by
            have hany : ((L ++ [b]).any fun x => decide (x.ty = 4)) = cmt hc b := by
              rw [List.any_append, HHC.out]
              simp [cmt]
            have hlen : (L ++ [b]).length = L.length + 1 := by simp
            have hnl := HNL.out
            refine ⟨⟨by omega, ?_⟩, by rw [hany, hlen]; exact HPX7.out⟩
            rw [hany, hlen, ← HLS.out, HPS2.out]
            by_cases g : 128 ≤ numA s a 1
            · rw [if_pos g, if_pos (decide_eq_true g)]
            · rw [if_neg g, if_neg (by simpa using g), show 1025 - (L.length + 1) = 1024 - L.length by omega]
          clear HPX6 HPX7 HNW HPS2 HHC HLS HIK ho6 hg6 a0 a1 f1 KT
          go_roundw
          case rel => exact ⟨a', L ++ [b], lst, rfl, HNX.out.1, HNX.out.2⟩
          case measure => rw [HLV.out]; show 1025 - (L.length + 1) < 1025 - L.length; omega
        · have HE : Hid (prsN s = ([], 0, rtE L.length hc b)) := HPS.out.trans (if_neg h0)
          have hb0 : (rtE L.length hc b != 0) = true := by rw [bne_iff_ne]; exact h0
          generalize rtE L.length hc b = E at *
          clear h0 HR4 HPS HPX3 HQ3 HQ4
          go_wp2_with fail
          go_ret3
          exact ⟨⟨none, 0, by rw [HE.out]; rfl, by rw [HE.out]; exact BlksAt.nil _ _, by rw [HE.out]; exact Nat.zero_le _, fun _ => rfl⟩, HB4.out⟩
      · have e2 := bk_no hb
        rw [e2] at HW2
        obtain ⟨r, hr⟩ := HW2.out
        have HWK : Hid (WkAt w2 (w.heap.size + 1) r true) := hr
        have HE : Hid (prsN s = ([], 0, 2)) := HP.out.trans (by rw [prs, if_neg hb])
        have HBL : Hid (Below w.heap.size w w2) := HPQ.out.1.bl.trans (only_below HS2.out HPQ.out.1.bl.size (by omega))
        have HQL : Hid (w.heap.size + 1 < q) := HQ2.out.2.1
        have c1 : w2.cell? ⟨w.heap.size + 1, 1, none⟩ = some (.bool true) := hr.c1
        have hne : ¬ q = w.heap.size + 1 := by have := HQL.out; omega
        generalize bkB s (some a) = bb
        generalize decide (128 ≤ numO s (some a) 1) = lst
        clear HW2 e2 hb HP hr HPQ HS2 HQ2
        go_wp2_with fail
        go_ret3
        exact ⟨⟨none, 0, by rw [HE.out]; rfl, by rw [HE.out]; exact BlksAt.nil _ _, by rw [HE.out]; exact Nat.zero_le _, fun _ => rfl⟩, (HBL.out.setCell (by show w.heap.size ≤ q; have := HQL.out; omega) _).setCell (by show w.heap.size ≤ q; have := HQL.out; omega) _⟩
    · have HE : Hid (prsN s = (L, a, 0)) := HST.out.2
      obtain ⟨ha, hwk⟩ := HPX.out.wk
      have c0 := hwk.c0
      have hsz := ext_len s a s.size ha (Nat.le_refl _)
      obtain ⟨ao2, cap2, h1, h2, h3, h4⟩ := BlksAt.own HPX.out.own
      cases h1
      have HAT : Hid (BlksAt wr ao L ∧ L.length ≤ cap ∧ (ao = none → cap = 0)) := ⟨h2, h3, h4⟩
      have HBL : Hid (Below w.heap.size w wr) := HPX.out.bl
      generalize s.extract a s.size = R at *
      have hsub : wrap64 ((s.size : Int) - (R.size : Int)) = (a : Int) := by unfold wrap64; omega
      have HSB : Hid (wrap64 ((s.size : Int) - (R.size : Int)) = (a : Int)) := hsub
      have ha0 : (a : Int) ≤ (s.size : Int) := by omega
      clear h2 h3 h4 hwk HPX hsub KB KT KC HST hsz
      go_wp2_with fail
      go_quiet (fail)
      go_wp2_with fail
      refine bodyPost_ret (v := .tuple #[.slice ao L.length cap, .int .i64 (a : Int), .int .i64 0]) (by simp [results, Tryd.results15, go_sem]; exact HSB.out) rfl ⟨⟨ao, cap, ?_, ?_⟩, ?_⟩
      · rw [HE.out]
      · rw [HE.out]
        exact ⟨HAT.out.1.below (below_drewN (Below.refl _ _) nq), HAT.out.2⟩
      · exact HBL.out.trans ((below_drewN (Below.refl wr.heap.size wr) nq).mono HBL.out.size)

end Go.Proofs.YtfmpiidnemhijaaDoor

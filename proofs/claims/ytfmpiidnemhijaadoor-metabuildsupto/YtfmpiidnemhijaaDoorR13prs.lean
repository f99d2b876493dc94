/- Own text: the walk of the document's Parse. -/
import Derived.Test.YtfmpiidnemhijaaDoorR13chk
import Derived.Test.YtfmpiidnemhijaaDoorQ13parse
namespace Go.Proofs.YtfmpiidnemhijaaDoor
open Go.RowKit
set_option linter.unusedSimpArgs false
set_option linter.unusedVariables false

/-- Parse's row. -/
structure QX (w0 wx : World) (L : List Blk) (v : Value) : Prop where
  own : wx.ownsRow w0.heap.size 36 2 v L.length (bcells L)
  bl : Below w0.heap.size w0 wx
section
variable {w0 wx w' : World} {L : List Blk} {v v' : Value} {b : Blk}
theorem QX.low (h : QX w0 wx L v) (hb : Below wx.heap.size wx w') : QX w0 w' L v := ⟨owns_below h.own hb, h.bl.trans (hb.mono h.bl.size)⟩
theorem QX.push (h : QX w0 wx L v) (ho : w'.ownsRow w0.heap.size 36 2 v' (L.length + 1) (bcells L ++ [.int .i64 b.ty, .string b.body])) (hg : wx.grownBy w' v.ownBlock) : QX w0 w' (L ++ [b]) v' :=
  ⟨by rw [bcells_snoc, List.length_append]; exact ho, grown_to hg h.bl h.bl.size (fun k e => (h.own.lt k e).1)⟩
end
theorem keptB2 {w w' : World} {Q : Nat} {d : Array Value} {T : TypeId} (h : w.heap[Q]? = some (.cells d T (0, 0))) (hB : Below w.heap.size w w') : w'.heap[Q]? = some (.cells d T (0, 0)) := (hB.block _ (lt_of_block h)).trans h
theorem i64_and127 (n : Int) : bits BinOp.and IntKind.i64 n 127 = n % 128 := by
  show IntKind.i64.wrap ((BitVec.ofInt 64 n &&& BitVec.ofInt 64 127).toNat : Int) = _
  rw [BitVec.toNat_and, BitVec.toNat_ofInt, show (BitVec.ofInt 64 127).toNat = 2 ^ 7 - 1 from rfl, Nat.and_two_pow_sub_one_eq_mod, IntKind.wrap_i64]
  omega
set_option maxRecDepth 20000 in
set_option maxHeartbeats 3200000 in
theorem xparse_any (s : ByteArray) (hs : s.size ≤ 140737488351232) (w : World) :
    Calls Tryd.prog 16 #[.string s] w fun e w' => PrsE s e w' ∧ Below w.heap.size w w' := by
  have KC : Hid (∀ b : Blk, b.body.size ≤ 140737488351232 → ∀ wx, Calls Tryd.prog 14 #[blkV b] wx fun e w' => e = .returned (.int .i64 (chkE b)) ∧ Below wx.heap.size wx w') := fun b hb wx => xcheck_any b hb wx
  obtain ⟨iK, hK0, hK1, hK2, hK3⟩ := info_parts5 infoB2
  have HIK : Hid (Tryd.prog.info? 36 = some iK ∧ iK.zero = some (.agg zeroB) ∧ iK.size = 2 ∧ iK.bytes = 24) := ⟨hK0, hK1, hK2, hK3⟩
  have HQ0 : Hid (QX w w [] noS) := ⟨World.ownsRow_nil _ _ _ _, Below.refl _ _⟩
  clear hK0 hK1 hK2 hK3
  go_enter Tryd.func16, Tryd.ntmps16
  go_wp2_with fail
  go_loopw [5, 6, 7] (fun g p c wr => ∃ (a : Nat) (L : List Blk), L.length ≤ 1024 ∧ p = .int .i64 (a : Int) ∧ c = .int .i64 (if (L.any fun x => decide (x.ty = 4)) = true then 1 else 0) ∧ a ≤ s.size ∧ QX w wr L g ∧ prsN s = prs s (1025 - L.length) a L (L.any fun x => decide (x.ty = 4))) (fun g _ _ _ => 1025 - lenV g)
  case atStart => exact ⟨0, [], Nat.zero_le _, rfl, rfl, Nat.zero_le _, HQ0.out, rfl⟩
  case round =>
    clear HQ0
    obtain ⟨a, L, hL, rfl, rfl, ha, hq, hp⟩ := hrel
    obtain ⟨ao, cap, hg, _⟩ := BlksAt.own hq.own
    subst hg
    have HQ : Hid (QX w wr L (.slice ao L.length cap)) := hq
    have hfu : 1025 - L.length = (1024 - L.length) + 1 := by omega
    rw [hfu] at hp
    generalize hhc : (L.any fun x => decide (x.ty = 4)) = hc at *
    have HHC : Hid ((L.any fun x => decide (x.ty = 4)) = hc) := hhc
    have HP : Hid (prsN s = prs s (1024 - L.length + 1) a L hc) := hp
    clear hq hp hfu hhc
    by_cases g4 : a + 4 ≤ s.size
    · have hx : a < s.size := by omega
      have hhd : (s[a]'hx).toNat < 256 := (s[a]'hx).toNat_lt
      have hn1 := numA_one s a hx
      have hsl := slice_run s (a + 1) (a + 4) (by omega) g4
      have kf := fun w => S2.reffromBe_spec (s.extract (a + 1) (a + 4)) (by have := ext_le s (a + 1) (a + 4); omega) w
      have hbe : S2.fromBe (bytesOf (s.extract (a + 1) (a + 4))) = (numA s (a + 1) 3 : Int) := numA_be s (a + 1) 3 (by decide)
      rw [hbe] at kf
      have hv := numA_lt s (a + 1) 3 (by decide)
      have h256 : (256 : Nat) ^ 3 = 16777216 := by decide
      have hv : numA s (a + 1) 3 < 16777216 := by omega
      have hc1 : ((a + 1 : Nat) : Int) = (a : Int) + 1 := by omega
      have hc4 : ((a + 4 : Nat) : Int) = (a : Int) + 4 := by omega
      rw [hc1, hc4] at hsl
      have g4i : (a : Int) + 4 ≤ (s.size : Int) := by omega
      have hxi : (a : Int) < (s.size : Int) := by omega
      clear hbe h256 hc1
      by_cases gv : a + 4 + numA s (a + 1) 3 ≤ s.size
      · have hB : hasB s a := ⟨g4, gv⟩
        obtain ⟨b, hb⟩ : ∃ b, b = blkN s a := ⟨_, rfl⟩
        obtain ⟨a', ha'⟩ : ∃ a', a' = nxtN s a := ⟨_, rfl⟩
        have HOK : Hid (L.length ≤ 1024 → prsN s = if rtE L.length hc b = 0 then (if 128 ≤ (s[a]'hx).toNat then (L ++ [b], a', 0) else prs s (1024 - L.length) a' (L ++ [b]) (cmt hc b)) else ([], 0, rtE L.length hc b)) := fun _ => HP.out.trans (by rw [prs, if_pos hB, hb, ha', hn1])
        have HPB : Hid (rtE L.length hc b = 2 → prsN s = ([], 0, 2)) := fun h => by
          rw [HOK.out hL, h]
          rfl
        have hty : ((s[a]'hx).toNat : Int) % 128 = b.ty := by
          rw [hb]
          show _ = ((numA s a 1 % 128 : Nat) : Int)
          rw [hn1]
          omega
        have hsl2 := slice_run s (a + 4) (a + 4 + numA s (a + 1) 3) (by omega) gv
        have hbo : s.extract (a + 4) (a + 4 + numA s (a + 1) 3) = b.body := by rw [hb]; rfl
        rw [hbo] at hsl2
        have hc5 : ((a + 4 + numA s (a + 1) 3 : Nat) : Int) = (a : Int) + 4 + (numA s (a + 1) 3 : Int) := by omega
        rw [hc5, hc4] at hsl2
        have HBS : Hid (b.body.size ≤ 140737488351232) := by
          show _ ≤ _
          rw [← hbo]
          have := ext_le s (a + 4) (a + 4 + numA s (a + 1) 3)
          omega
        have hval : a' = a + 4 + numA s (a + 1) 3 := ha'
        have hand := i64_and127 ((s[a]'hx).toNat : Int)
        rw [hty] at hand
        have ht0 : 0 ≤ b.ty := by omega
        have ht1 : b.ty ≤ 127 := by omega
        generalize numA s (a + 1) 3 = v at *
        generalize s.extract (a + 1) (a + 4) = X at *
        have gvi : (v : Int) ≤ (s.size : Int) - ((a : Int) + 4) := by omega
        have hai : (a : Int) + 4 + (v : Int) = (a' : Int) := by omega
        have HAI : Hid ((a : Int) + 4 + (v : Int) = (a' : Int)) := hai
        have hale : a' ≤ s.size := by omega
        clear hb hB hbo hc4 hc5 hval ha' HP hai hn1 g4 gv
        generalize hhd2 : (s[a]'hx).toNat = hd at *
        cases hc
        · go_wp2_with fail
          go_quiet ((go_at_call 33; exact Calls.quiet_of_same (kf _)))
          have HQ2 : Hid (QX w (wr.drewN nq) L (.slice ao L.length cap)) := HQ.out.low (below_drewN (Below.refl _ _) nq)
          generalize wr.drewN nq = wr2 at *
          have HBX : Hid (Below w.heap.size w (wr2.alloc (.cells (blkC b) 36))) := HQ2.out.bl.alloc HQ2.out.bl.size _
          clear HQ kf hsl
          by_cases gc : L.length = 0
          · have bc : ((L.length : Int) == 0) = true := by rw [beq_iff_eq]; omega
            by_cases gt : b.ty = 0
            · have bt : (b.ty == 0) = true := by rw [beq_iff_eq]; exact gt
              have b4 : (b.ty == 4) = false := by rw [beq_eq_false_iff_ne]; omega
              have b7 : (b.ty == 127) = false := by rw [beq_eq_false_iff_ne]; omega
              have HCB : Hid (cmt false b = false) := by unfold cmt; rw [decide_eq_false (by omega)]; rfl
              have HRT : Hid (¬ L.length = 1024 → rtE L.length false b = chkE b) := fun h => rtE_of (⟨fun _ => gt, fun _ => gc⟩) (by omega) (fun q => by cases q.1) h
              by_cases hk : L.length = 1024
              · have HE : Hid (prsN s = ([], 0, 5)) := by
                  have h := HOK.out (by omega)
                  have h5 : rtE L.length false b = 5 := by
                    unfold rtE
                    rw [if_neg (by rintro (q | q | q); exact q (⟨fun _ => gt, fun _ => gc⟩); omega; exact (fun q => by cases q.1) q), if_pos hk]
                  rw [h, h5]
                  rfl
                have bk : ((L.length : Int) == 1024) = true := by rw [beq_iff_eq]; omega
                clear HPB HOK HRT hk
                try clear gt
                try clear g44
                try clear g7
                try clear gc
                go_wp2_with fail
                go_ret3
                exact ⟨⟨none, 0, by rw [HE.out]; rfl, by rw [HE.out]; exact BlksAt.nil _ _, by rw [HE.out]; exact Nat.zero_le _, fun _ => rfl⟩, HBX.out⟩
              · have bk : ((L.length : Int) == 1024) = false := by rw [beq_eq_false_iff_ne]; omega
                have HRE : Hid (rtE L.length false b = chkE b) := HRT.out hk
                have kc := KC.out b HBS.out
                have HK : Hid (¬ L.length = 1024) := hk
                clear hk
                try clear gt
                try clear g44
                try clear g7
                try clear gc
                go_wp2_with fail
                generalize hwx : World.alloc wr2 _ = w3
                have HX3 : Hid (QX w w3 L (.slice ao L.length cap)) := by rw [← hwx]; exact HQ2.out.low ((Below.refl _ _).alloc (Nat.le_refl _) _)
                have HB3 : Hid (w3.heap[wr2.heap.size]? = some (.cells (blkC b) 36 (0, 0))) := by rw [← hwx]; exact heap_alloc_new _ _
                clear hwx
                refine (kc w3).mono ?_
                rintro e w4 ⟨rfl, hb4⟩
                have HX4 : Hid (QX w w4 L (.slice ao L.length cap)) := HX3.out.low hb4
                have HB4 : Hid (w4.heap[wr2.heap.size]? = some (.cells (blkC b) 36 (0, 0))) := keptB2 HB3.out hb4
                clear hb4 HX3 HB3 kc KC
                by_cases he0 : chkE b = 0
                · have HPG : Hid (prsN s = if 128 ≤ hd then (L ++ [b], a', 0) else prs s (1024 - L.length) a' (L ++ [b]) (cmt false b)) := by
                    exact (HOK.out (by omega)).trans (if_pos (HRE.out.trans he0))
                  have x0 := (blk_cells HB4.out).1
                  have x1 := (blk_cells HB4.out).2
                  have HX5 : Hid (QX w (w4.alloc (.cells (blkC b) 36)) L (.slice ao L.length cap)) := HX4.out.low ((Below.refl _ _).alloc (Nat.le_refl _) _)
                  have HNW : Hid (∀ j u, [Value.int .i64 b.ty, .string b.body][j]? = some u → (w4.alloc (.cells (blkC b) 36)).cell? ((⟨w4.heap.size, 0, none⟩ : Addr).add j) = some u) := fun j u hj => two_cells (w := w4) (e := 36) j u hj
                  rw [he0]
                  clear HPB HOK HRT HRE he0 HX4 HB4
                  by_cases gl : 128 ≤ hd
                  · have HE : Hid (prsN s = (L ++ [b], a', 0)) := HPG.out.trans (if_pos gl)
                    have gli : decide ((127 : Int) < (hd : Int)) = true := decide_eq_true (by omega)
                    clear HPG gl
                    go_wp2_with (at_builtin; go_loud (refine wpList_append_row _ rfl (.tmp 77) (.tmp 79) 40 rfl w.heap.size 36 iK (.agg zeroB) 2 24 Tryd.underlying40 HIK.out.1 HIK.out.2.1 HIK.out.2.2.1 HIK.out.2.2.2 rfl (by decide) (.slice ao L.length cap) L.length _ rfl HX5.out.own ⟨w4.heap.size, 0, none⟩ 1 1 [.int .i64 b.ty, .string b.body] rfl rfl HNW.out (by simp [Value.oneCell']) (by simp only [maxLen]; omega) (by omega) HX5.out.bl.size ?_); intro v6 w6 ho6 hg6 hx6)
                    have HX6 : Hid (QX w w6 (L ++ [b]) v6) := HX5.out.push ho6.out hg6.out
                    clear HX5 HNW HIK ho6 hg6 hx6 x0 x1
                    obtain ⟨ao6, cap6, e6, h61, h62, h63⟩ := BlksAt.own HX6.out.own
                    have H6 : Hid (BlksAt w6 ao6 (L ++ [b]) ∧ (L ++ [b]).length ≤ cap6 ∧ (ao6 = none → cap6 = 0)) := ⟨h61, h62, h63⟩
                    have hl6 : (L ++ [b]).length = L.length + 1 := by simp
                    rw [hl6] at e6
                    clear h61 h62 h63
                    subst e6
                    try go_wp2_with fail
                    go_ret3
                    exact ⟨⟨ao6, cap6, by rw [HE.out]; show _ = Ending.returned (.tuple #[.slice ao6 (L ++ [b]).length cap6, .int .i64 (a' : Int), _]); rw [hl6, ← HAI.out]; rfl, by rw [HE.out]; exact H6.out.1, by rw [HE.out]; exact H6.out.2.1, H6.out.2.2⟩, HX6.out.bl⟩
                  · have hl6 : (L ++ [b]).length = L.length + 1 := by simp
                    have HN : Hid (prsN s = prs s (1025 - (L ++ [b]).length) a' (L ++ [b]) ((L ++ [b]).any fun x => decide (x.ty = 4))) := by
                      have hany : ((L ++ [b]).any fun x => decide (x.ty = 4)) = cmt false b := by
                        rw [List.any_append, HHC.out]
                        simp [cmt]
                      show _ = _
                      rw [HPG.out, if_neg gl, hany, hl6, show 1025 - (L.length + 1) = 1024 - L.length by omega]
                    have gli : decide ((127 : Int) < (hd : Int)) = false := decide_eq_false (by omega)
                    have HCM : Hid (((L ++ [b]).any fun x => decide (x.ty = 4)) = cmt false b) := by
                      show _ = _
                      rw [List.any_append, HHC.out]
                      simp [cmt]
                    clear HPG gl
                    go_wp2_with (at_builtin; go_loud (refine wpList_append_row _ rfl (.tmp 77) (.tmp 79) 40 rfl w.heap.size 36 iK (.agg zeroB) 2 24 Tryd.underlying40 HIK.out.1 HIK.out.2.1 HIK.out.2.2.1 HIK.out.2.2.2 rfl (by decide) (.slice ao L.length cap) L.length _ rfl HX5.out.own ⟨w4.heap.size, 0, none⟩ 1 1 [.int .i64 b.ty, .string b.body] rfl rfl HNW.out (by simp [Value.oneCell']) (by simp only [maxLen]; omega) (by omega) HX5.out.bl.size ?_); intro v6 w6 ho6 hg6 hx6)
                    have HX6 : Hid (QX w w6 (L ++ [b]) v6) := HX5.out.push ho6.out hg6.out
                    clear HX5 HNW HIK ho6 hg6 hx6 x0 x1
                    obtain ⟨ao6, cap6, e6, h61, h62, h63⟩ := BlksAt.own HX6.out.own
                    have H6 : Hid (BlksAt w6 ao6 (L ++ [b]) ∧ (L ++ [b]).length ≤ cap6 ∧ (ao6 = none → cap6 = 0)) := ⟨h61, h62, h63⟩
                    rw [hl6] at e6
                    clear h61 h62 h63
                    subst e6
                    try go_wp2_with fail
                    go_roundw
                    case rel => exact ⟨a', L ++ [b], by have := HK.out; rw [hl6]; omega, by show _ = Value.int .i64 _; rw [← HAI.out], by rw [HCM.out]; rw [HCB.out]; rfl, by omega, by rw [hl6] at *; exact HX6.out, HN.out⟩
                    case measure => show 1025 - (L.length + 1) < 1025 - L.length; omega
                · have HE : Hid (prsN s = ([], 0, chkE b)) := (HOK.out (by omega)).trans (by rw [HRE.out, if_neg he0])
                  have bz : (chkE b != 0) = true := by rw [bne_iff_ne]; exact he0
                  generalize chkE b = E at *
                  clear HPB HOK HRT HRE he0
                  go_wp2_with fail
                  go_ret3
                  exact ⟨⟨none, 0, by rw [HE.out]; rfl, by rw [HE.out]; exact BlksAt.nil _ _, by rw [HE.out]; exact Nat.zero_le _, fun _ => rfl⟩, HX4.out.bl⟩
            · have bt : (b.ty == 0) = false := by rw [beq_eq_false_iff_ne]; exact gt
              by_cases g44 : b.ty = 4
              · have b4 : (b.ty == 4) = true := by rw [beq_iff_eq]; exact g44
                have HE : Hid (prsN s = ([], 0, 2)) := HPB.out (by unfold rtE; rw [if_pos (.inl (fun q => gt (q.1 gc)))])
                clear HPB HOK
                try clear gt
                try clear g44
                try clear g7
                try clear gc
                go_wp2_with fail
                go_ret3
                exact ⟨⟨none, 0, by rw [HE.out]; rfl, by rw [HE.out]; exact BlksAt.nil _ _, by rw [HE.out]; exact Nat.zero_le _, fun _ => rfl⟩, HBX.out⟩
              · have b4 : (b.ty == 4) = false := by rw [beq_eq_false_iff_ne]; exact g44
                have HE : Hid (prsN s = ([], 0, 2)) := HPB.out (by unfold rtE; rw [if_pos (.inl (fun q => gt (q.1 gc)))])
                clear HPB HOK
                try clear gt
                try clear g44
                try clear g7
                try clear gc
                go_wp2_with fail
                go_ret3
                exact ⟨⟨none, 0, by rw [HE.out]; rfl, by rw [HE.out]; exact BlksAt.nil _ _, by rw [HE.out]; exact Nat.zero_le _, fun _ => rfl⟩, HBX.out⟩
          · have bc : ((L.length : Int) == 0) = false := by rw [beq_eq_false_iff_ne]; omega
            by_cases gt : b.ty = 0
            · have bt : (b.ty == 0) = true := by rw [beq_iff_eq]; exact gt
              have b4 : (b.ty == 4) = false := by rw [beq_eq_false_iff_ne]; omega
              have HE : Hid (prsN s = ([], 0, 2)) := HPB.out (by unfold rtE; rw [if_pos (.inl (fun q => gc (q.2 gt)))])
              clear HPB HOK
              try clear gt
              try clear g44
              try clear g7
              try clear gc
              go_wp2_with fail
              go_ret3
              exact ⟨⟨none, 0, by rw [HE.out]; rfl, by rw [HE.out]; exact BlksAt.nil _ _, by rw [HE.out]; exact Nat.zero_le _, fun _ => rfl⟩, HBX.out⟩
            · have bt : (b.ty == 0) = false := by rw [beq_eq_false_iff_ne]; exact gt
              by_cases g7 : b.ty = 127
              · have b7 : (b.ty == 127) = true := by rw [beq_iff_eq]; exact g7
                have b4 : (b.ty == 4) = false := by rw [beq_eq_false_iff_ne]; omega
                have HE : Hid (prsN s = ([], 0, 2)) := HPB.out (by unfold rtE; rw [if_pos (.inr (.inl (by omega)))])
                clear HPB HOK
                try clear gt
                try clear g44
                try clear g7
                try clear gc
                go_wp2_with fail
                go_ret3
                exact ⟨⟨none, 0, by rw [HE.out]; rfl, by rw [HE.out]; exact BlksAt.nil _ _, by rw [HE.out]; exact Nat.zero_le _, fun _ => rfl⟩, HBX.out⟩
              · have b7 : (b.ty == 127) = false := by rw [beq_eq_false_iff_ne]; exact g7
                by_cases g44 : b.ty = 4
                · have b4 : (b.ty == 4) = true := by rw [beq_iff_eq]; exact g44
                  have HCB : Hid (cmt false b = true) := by unfold cmt; rw [decide_eq_true g44]; rfl
                  have HRT : Hid (¬ L.length = 1024 → rtE L.length false b = chkE b) := fun h => rtE_of (⟨fun q => absurd q gc, fun q => absurd q gt⟩) (by omega) (fun q => by cases q.1) h
                  by_cases hk : L.length = 1024
                  · have HE : Hid (prsN s = ([], 0, 5)) := by
                      have h := HOK.out (by omega)
                      have h5 : rtE L.length false b = 5 := by
                        unfold rtE
                        rw [if_neg (by rintro (q | q | q); exact q (⟨fun q => absurd q gc, fun q => absurd q gt⟩); omega; exact (fun q => by cases q.1) q), if_pos hk]
                      rw [h, h5]
                      rfl
                    have bk : ((L.length : Int) == 1024) = true := by rw [beq_iff_eq]; omega
                    clear HPB HOK HRT hk
                    try clear gt
                    try clear g44
                    try clear g7
                    try clear gc
                    go_wp2_with fail
                    go_ret3
                    exact ⟨⟨none, 0, by rw [HE.out]; rfl, by rw [HE.out]; exact BlksAt.nil _ _, by rw [HE.out]; exact Nat.zero_le _, fun _ => rfl⟩, HBX.out⟩
                  · have bk : ((L.length : Int) == 1024) = false := by rw [beq_eq_false_iff_ne]; omega
                    have HRE : Hid (rtE L.length false b = chkE b) := HRT.out hk
                    have kc := KC.out b HBS.out
                    have HK : Hid (¬ L.length = 1024) := hk
                    clear hk
                    try clear gt
                    try clear g44
                    try clear g7
                    try clear gc
                    go_wp2_with fail
                    generalize hwx : World.alloc wr2 _ = w3
                    have HX3 : Hid (QX w w3 L (.slice ao L.length cap)) := by rw [← hwx]; exact HQ2.out.low ((Below.refl _ _).alloc (Nat.le_refl _) _)
                    have HB3 : Hid (w3.heap[wr2.heap.size]? = some (.cells (blkC b) 36 (0, 0))) := by rw [← hwx]; exact heap_alloc_new _ _
                    clear hwx
                    refine (kc w3).mono ?_
                    rintro e w4 ⟨rfl, hb4⟩
                    have HX4 : Hid (QX w w4 L (.slice ao L.length cap)) := HX3.out.low hb4
                    have HB4 : Hid (w4.heap[wr2.heap.size]? = some (.cells (blkC b) 36 (0, 0))) := keptB2 HB3.out hb4
                    clear hb4 HX3 HB3 kc KC
                    by_cases he0 : chkE b = 0
                    · have HPG : Hid (prsN s = if 128 ≤ hd then (L ++ [b], a', 0) else prs s (1024 - L.length) a' (L ++ [b]) (cmt false b)) := by
                        exact (HOK.out (by omega)).trans (if_pos (HRE.out.trans he0))
                      have x0 := (blk_cells HB4.out).1
                      have x1 := (blk_cells HB4.out).2
                      have HX5 : Hid (QX w (w4.alloc (.cells (blkC b) 36)) L (.slice ao L.length cap)) := HX4.out.low ((Below.refl _ _).alloc (Nat.le_refl _) _)
                      have HNW : Hid (∀ j u, [Value.int .i64 b.ty, .string b.body][j]? = some u → (w4.alloc (.cells (blkC b) 36)).cell? ((⟨w4.heap.size, 0, none⟩ : Addr).add j) = some u) := fun j u hj => two_cells (w := w4) (e := 36) j u hj
                      rw [he0]
                      clear HPB HOK HRT HRE he0 HX4 HB4
                      by_cases gl : 128 ≤ hd
                      · have HE : Hid (prsN s = (L ++ [b], a', 0)) := HPG.out.trans (if_pos gl)
                        have gli : decide ((127 : Int) < (hd : Int)) = true := decide_eq_true (by omega)
                        clear HPG gl
                        go_wp2_with (at_builtin; go_loud (refine wpList_append_row _ rfl (.tmp 77) (.tmp 79) 40 rfl w.heap.size 36 iK (.agg zeroB) 2 24 Tryd.underlying40 HIK.out.1 HIK.out.2.1 HIK.out.2.2.1 HIK.out.2.2.2 rfl (by decide) (.slice ao L.length cap) L.length _ rfl HX5.out.own ⟨w4.heap.size, 0, none⟩ 1 1 [.int .i64 b.ty, .string b.body] rfl rfl HNW.out (by simp [Value.oneCell']) (by simp only [maxLen]; omega) (by omega) HX5.out.bl.size ?_); intro v6 w6 ho6 hg6 hx6)
                        have HX6 : Hid (QX w w6 (L ++ [b]) v6) := HX5.out.push ho6.out hg6.out
                        clear HX5 HNW HIK ho6 hg6 hx6 x0 x1
                        obtain ⟨ao6, cap6, e6, h61, h62, h63⟩ := BlksAt.own HX6.out.own
                        have H6 : Hid (BlksAt w6 ao6 (L ++ [b]) ∧ (L ++ [b]).length ≤ cap6 ∧ (ao6 = none → cap6 = 0)) := ⟨h61, h62, h63⟩
                        have hl6 : (L ++ [b]).length = L.length + 1 := by simp
                        rw [hl6] at e6
                        clear h61 h62 h63
                        subst e6
                        try go_wp2_with fail
                        go_ret3
                        exact ⟨⟨ao6, cap6, by rw [HE.out]; show _ = Ending.returned (.tuple #[.slice ao6 (L ++ [b]).length cap6, .int .i64 (a' : Int), _]); rw [hl6, ← HAI.out]; rfl, by rw [HE.out]; exact H6.out.1, by rw [HE.out]; exact H6.out.2.1, H6.out.2.2⟩, HX6.out.bl⟩
                      · have hl6 : (L ++ [b]).length = L.length + 1 := by simp
                        have HN : Hid (prsN s = prs s (1025 - (L ++ [b]).length) a' (L ++ [b]) ((L ++ [b]).any fun x => decide (x.ty = 4))) := by
                          have hany : ((L ++ [b]).any fun x => decide (x.ty = 4)) = cmt false b := by
                            rw [List.any_append, HHC.out]
                            simp [cmt]
                          show _ = _
                          rw [HPG.out, if_neg gl, hany, hl6, show 1025 - (L.length + 1) = 1024 - L.length by omega]
                        have gli : decide ((127 : Int) < (hd : Int)) = false := decide_eq_false (by omega)
                        have HCM : Hid (((L ++ [b]).any fun x => decide (x.ty = 4)) = cmt false b) := by
                          show _ = _
                          rw [List.any_append, HHC.out]
                          simp [cmt]
                        clear HPG gl
                        go_wp2_with (at_builtin; go_loud (refine wpList_append_row _ rfl (.tmp 77) (.tmp 79) 40 rfl w.heap.size 36 iK (.agg zeroB) 2 24 Tryd.underlying40 HIK.out.1 HIK.out.2.1 HIK.out.2.2.1 HIK.out.2.2.2 rfl (by decide) (.slice ao L.length cap) L.length _ rfl HX5.out.own ⟨w4.heap.size, 0, none⟩ 1 1 [.int .i64 b.ty, .string b.body] rfl rfl HNW.out (by simp [Value.oneCell']) (by simp only [maxLen]; omega) (by omega) HX5.out.bl.size ?_); intro v6 w6 ho6 hg6 hx6)
                        have HX6 : Hid (QX w w6 (L ++ [b]) v6) := HX5.out.push ho6.out hg6.out
                        clear HX5 HNW HIK ho6 hg6 hx6 x0 x1
                        obtain ⟨ao6, cap6, e6, h61, h62, h63⟩ := BlksAt.own HX6.out.own
                        have H6 : Hid (BlksAt w6 ao6 (L ++ [b]) ∧ (L ++ [b]).length ≤ cap6 ∧ (ao6 = none → cap6 = 0)) := ⟨h61, h62, h63⟩
                        rw [hl6] at e6
                        clear h61 h62 h63
                        subst e6
                        try go_wp2_with fail
                        go_roundw
                        case rel => exact ⟨a', L ++ [b], by have := HK.out; rw [hl6]; omega, by show _ = Value.int .i64 _; rw [← HAI.out], by rw [HCM.out]; rw [HCB.out]; rfl, by omega, by rw [hl6] at *; exact HX6.out, HN.out⟩
                        case measure => show 1025 - (L.length + 1) < 1025 - L.length; omega
                    · have HE : Hid (prsN s = ([], 0, chkE b)) := (HOK.out (by omega)).trans (by rw [HRE.out, if_neg he0])
                      have bz : (chkE b != 0) = true := by rw [bne_iff_ne]; exact he0
                      generalize chkE b = E at *
                      clear HPB HOK HRT HRE he0
                      go_wp2_with fail
                      go_ret3
                      exact ⟨⟨none, 0, by rw [HE.out]; rfl, by rw [HE.out]; exact BlksAt.nil _ _, by rw [HE.out]; exact Nat.zero_le _, fun _ => rfl⟩, HX4.out.bl⟩
                · have b4 : (b.ty == 4) = false := by rw [beq_eq_false_iff_ne]; exact g44
                  have HCB : Hid (cmt false b = false) := by unfold cmt; rw [decide_eq_false g44]; rfl
                  have HRT : Hid (¬ L.length = 1024 → rtE L.length false b = chkE b) := fun h => rtE_of (⟨fun q => absurd q gc, fun q => absurd q gt⟩) (by omega) (fun q => g44 q.2) h
                  by_cases hk : L.length = 1024
                  · have HE : Hid (prsN s = ([], 0, 5)) := by
                      have h := HOK.out (by omega)
                      have h5 : rtE L.length false b = 5 := by
                        unfold rtE
                        rw [if_neg (by rintro (q | q | q); exact q (⟨fun q => absurd q gc, fun q => absurd q gt⟩); omega; exact (fun q => g44 q.2) q), if_pos hk]
                      rw [h, h5]
                      rfl
                    have bk : ((L.length : Int) == 1024) = true := by rw [beq_iff_eq]; omega
                    clear HPB HOK HRT hk
                    try clear gt
                    try clear g44
                    try clear g7
                    try clear gc
                    go_wp2_with fail
                    go_ret3
                    exact ⟨⟨none, 0, by rw [HE.out]; rfl, by rw [HE.out]; exact BlksAt.nil _ _, by rw [HE.out]; exact Nat.zero_le _, fun _ => rfl⟩, HBX.out⟩
                  · have bk : ((L.length : Int) == 1024) = false := by rw [beq_eq_false_iff_ne]; omega
                    have HRE : Hid (rtE L.length false b = chkE b) := HRT.out hk
                    have kc := KC.out b HBS.out
                    have HK : Hid (¬ L.length = 1024) := hk
                    clear hk
                    try clear gt
                    try clear g44
                    try clear g7
                    try clear gc
                    go_wp2_with fail
                    generalize hwx : World.alloc wr2 _ = w3
                    have HX3 : Hid (QX w w3 L (.slice ao L.length cap)) := by rw [← hwx]; exact HQ2.out.low ((Below.refl _ _).alloc (Nat.le_refl _) _)
                    have HB3 : Hid (w3.heap[wr2.heap.size]? = some (.cells (blkC b) 36 (0, 0))) := by rw [← hwx]; exact heap_alloc_new _ _
                    clear hwx
                    refine (kc w3).mono ?_
                    rintro e w4 ⟨rfl, hb4⟩
                    have HX4 : Hid (QX w w4 L (.slice ao L.length cap)) := HX3.out.low hb4
                    have HB4 : Hid (w4.heap[wr2.heap.size]? = some (.cells (blkC b) 36 (0, 0))) := keptB2 HB3.out hb4
                    clear hb4 HX3 HB3 kc KC
                    by_cases he0 : chkE b = 0
                    · have HPG : Hid (prsN s = if 128 ≤ hd then (L ++ [b], a', 0) else prs s (1024 - L.length) a' (L ++ [b]) (cmt false b)) := by
                        exact (HOK.out (by omega)).trans (if_pos (HRE.out.trans he0))
                      have x0 := (blk_cells HB4.out).1
                      have x1 := (blk_cells HB4.out).2
                      have HX5 : Hid (QX w (w4.alloc (.cells (blkC b) 36)) L (.slice ao L.length cap)) := HX4.out.low ((Below.refl _ _).alloc (Nat.le_refl _) _)
                      have HNW : Hid (∀ j u, [Value.int .i64 b.ty, .string b.body][j]? = some u → (w4.alloc (.cells (blkC b) 36)).cell? ((⟨w4.heap.size, 0, none⟩ : Addr).add j) = some u) := fun j u hj => two_cells (w := w4) (e := 36) j u hj
                      rw [he0]
                      clear HPB HOK HRT HRE he0 HX4 HB4
                      by_cases gl : 128 ≤ hd
                      · have HE : Hid (prsN s = (L ++ [b], a', 0)) := HPG.out.trans (if_pos gl)
                        have gli : decide ((127 : Int) < (hd : Int)) = true := decide_eq_true (by omega)
                        clear HPG gl
                        go_wp2_with (at_builtin; go_loud (refine wpList_append_row _ rfl (.tmp 77) (.tmp 79) 40 rfl w.heap.size 36 iK (.agg zeroB) 2 24 Tryd.underlying40 HIK.out.1 HIK.out.2.1 HIK.out.2.2.1 HIK.out.2.2.2 rfl (by decide) (.slice ao L.length cap) L.length _ rfl HX5.out.own ⟨w4.heap.size, 0, none⟩ 1 1 [.int .i64 b.ty, .string b.body] rfl rfl HNW.out (by simp [Value.oneCell']) (by simp only [maxLen]; omega) (by omega) HX5.out.bl.size ?_); intro v6 w6 ho6 hg6 hx6)
                        have HX6 : Hid (QX w w6 (L ++ [b]) v6) := HX5.out.push ho6.out hg6.out
                        clear HX5 HNW HIK ho6 hg6 hx6 x0 x1
                        obtain ⟨ao6, cap6, e6, h61, h62, h63⟩ := BlksAt.own HX6.out.own
                        have H6 : Hid (BlksAt w6 ao6 (L ++ [b]) ∧ (L ++ [b]).length ≤ cap6 ∧ (ao6 = none → cap6 = 0)) := ⟨h61, h62, h63⟩
                        have hl6 : (L ++ [b]).length = L.length + 1 := by simp
                        rw [hl6] at e6
                        clear h61 h62 h63
                        subst e6
                        try go_wp2_with fail
                        go_ret3
                        exact ⟨⟨ao6, cap6, by rw [HE.out]; show _ = Ending.returned (.tuple #[.slice ao6 (L ++ [b]).length cap6, .int .i64 (a' : Int), _]); rw [hl6, ← HAI.out]; rfl, by rw [HE.out]; exact H6.out.1, by rw [HE.out]; exact H6.out.2.1, H6.out.2.2⟩, HX6.out.bl⟩
                      · have hl6 : (L ++ [b]).length = L.length + 1 := by simp
                        have HN : Hid (prsN s = prs s (1025 - (L ++ [b]).length) a' (L ++ [b]) ((L ++ [b]).any fun x => decide (x.ty = 4))) := by
                          have hany : ((L ++ [b]).any fun x => decide (x.ty = 4)) = cmt false b := by
                            rw [List.any_append, HHC.out]
                            simp [cmt]
                          show _ = _
                          rw [HPG.out, if_neg gl, hany, hl6, show 1025 - (L.length + 1) = 1024 - L.length by omega]
                        have gli : decide ((127 : Int) < (hd : Int)) = false := decide_eq_false (by omega)
                        have HCM : Hid (((L ++ [b]).any fun x => decide (x.ty = 4)) = cmt false b) := by
                          show _ = _
                          rw [List.any_append, HHC.out]
                          simp [cmt]
                        clear HPG gl
                        go_wp2_with (at_builtin; go_loud (refine wpList_append_row _ rfl (.tmp 77) (.tmp 79) 40 rfl w.heap.size 36 iK (.agg zeroB) 2 24 Tryd.underlying40 HIK.out.1 HIK.out.2.1 HIK.out.2.2.1 HIK.out.2.2.2 rfl (by decide) (.slice ao L.length cap) L.length _ rfl HX5.out.own ⟨w4.heap.size, 0, none⟩ 1 1 [.int .i64 b.ty, .string b.body] rfl rfl HNW.out (by simp [Value.oneCell']) (by simp only [maxLen]; omega) (by omega) HX5.out.bl.size ?_); intro v6 w6 ho6 hg6 hx6)
                        have HX6 : Hid (QX w w6 (L ++ [b]) v6) := HX5.out.push ho6.out hg6.out
                        clear HX5 HNW HIK ho6 hg6 hx6 x0 x1
                        obtain ⟨ao6, cap6, e6, h61, h62, h63⟩ := BlksAt.own HX6.out.own
                        have H6 : Hid (BlksAt w6 ao6 (L ++ [b]) ∧ (L ++ [b]).length ≤ cap6 ∧ (ao6 = none → cap6 = 0)) := ⟨h61, h62, h63⟩
                        rw [hl6] at e6
                        clear h61 h62 h63
                        subst e6
                        try go_wp2_with fail
                        go_roundw
                        case rel => exact ⟨a', L ++ [b], by have := HK.out; rw [hl6]; omega, by show _ = Value.int .i64 _; rw [← HAI.out], by rw [HCM.out]; rw [HCB.out]; rfl, by omega, by rw [hl6] at *; exact HX6.out, HN.out⟩
                        case measure => show 1025 - (L.length + 1) < 1025 - L.length; omega
                    · have HE : Hid (prsN s = ([], 0, chkE b)) := (HOK.out (by omega)).trans (by rw [HRE.out, if_neg he0])
                      have bz : (chkE b != 0) = true := by rw [bne_iff_ne]; exact he0
                      generalize chkE b = E at *
                      clear HPB HOK HRT HRE he0
                      go_wp2_with fail
                      go_ret3
                      exact ⟨⟨none, 0, by rw [HE.out]; rfl, by rw [HE.out]; exact BlksAt.nil _ _, by rw [HE.out]; exact Nat.zero_le _, fun _ => rfl⟩, HX4.out.bl⟩
        · go_wp2_with fail
          go_quiet ((go_at_call 33; exact Calls.quiet_of_same (kf _)))
          have HQ2 : Hid (QX w (wr.drewN nq) L (.slice ao L.length cap)) := HQ.out.low (below_drewN (Below.refl _ _) nq)
          generalize wr.drewN nq = wr2 at *
          have HBX : Hid (Below w.heap.size w (wr2.alloc (.cells (blkC b) 36))) := HQ2.out.bl.alloc HQ2.out.bl.size _
          clear HQ kf hsl
          by_cases gc : L.length = 0
          · have bc : ((L.length : Int) == 0) = true := by rw [beq_iff_eq]; omega
            by_cases gt : b.ty = 0
            · have bt : (b.ty == 0) = true := by rw [beq_iff_eq]; exact gt
              have b4 : (b.ty == 4) = false := by rw [beq_eq_false_iff_ne]; omega
              have b7 : (b.ty == 127) = false := by rw [beq_eq_false_iff_ne]; omega
              exact absurd HHC.out (by rw [List.eq_nil_of_length_eq_zero gc]; simp)
            · have bt : (b.ty == 0) = false := by rw [beq_eq_false_iff_ne]; exact gt
              by_cases g44 : b.ty = 4
              · have b4 : (b.ty == 4) = true := by rw [beq_iff_eq]; exact g44
                have HE : Hid (prsN s = ([], 0, 2)) := HPB.out (by unfold rtE; rw [if_pos (.inl (fun q => gt (q.1 gc)))])
                clear HPB HOK
                try clear gt
                try clear g44
                try clear g7
                try clear gc
                go_wp2_with fail
                go_ret3
                exact ⟨⟨none, 0, by rw [HE.out]; rfl, by rw [HE.out]; exact BlksAt.nil _ _, by rw [HE.out]; exact Nat.zero_le _, fun _ => rfl⟩, HBX.out⟩
              · have b4 : (b.ty == 4) = false := by rw [beq_eq_false_iff_ne]; exact g44
                have HE : Hid (prsN s = ([], 0, 2)) := HPB.out (by unfold rtE; rw [if_pos (.inl (fun q => gt (q.1 gc)))])
                clear HPB HOK
                try clear gt
                try clear g44
                try clear g7
                try clear gc
                go_wp2_with fail
                go_ret3
                exact ⟨⟨none, 0, by rw [HE.out]; rfl, by rw [HE.out]; exact BlksAt.nil _ _, by rw [HE.out]; exact Nat.zero_le _, fun _ => rfl⟩, HBX.out⟩
          · have bc : ((L.length : Int) == 0) = false := by rw [beq_eq_false_iff_ne]; omega
            by_cases gt : b.ty = 0
            · have bt : (b.ty == 0) = true := by rw [beq_iff_eq]; exact gt
              have b4 : (b.ty == 4) = false := by rw [beq_eq_false_iff_ne]; omega
              have HE : Hid (prsN s = ([], 0, 2)) := HPB.out (by unfold rtE; rw [if_pos (.inl (fun q => gc (q.2 gt)))])
              clear HPB HOK
              try clear gt
              try clear g44
              try clear g7
              try clear gc
              go_wp2_with fail
              go_ret3
              exact ⟨⟨none, 0, by rw [HE.out]; rfl, by rw [HE.out]; exact BlksAt.nil _ _, by rw [HE.out]; exact Nat.zero_le _, fun _ => rfl⟩, HBX.out⟩
            · have bt : (b.ty == 0) = false := by rw [beq_eq_false_iff_ne]; exact gt
              by_cases g7 : b.ty = 127
              · have b7 : (b.ty == 127) = true := by rw [beq_iff_eq]; exact g7
                have b4 : (b.ty == 4) = false := by rw [beq_eq_false_iff_ne]; omega
                have HE : Hid (prsN s = ([], 0, 2)) := HPB.out (by unfold rtE; rw [if_pos (.inr (.inl (by omega)))])
                clear HPB HOK
                try clear gt
                try clear g44
                try clear g7
                try clear gc
                go_wp2_with fail
                go_ret3
                exact ⟨⟨none, 0, by rw [HE.out]; rfl, by rw [HE.out]; exact BlksAt.nil _ _, by rw [HE.out]; exact Nat.zero_le _, fun _ => rfl⟩, HBX.out⟩
              · have b7 : (b.ty == 127) = false := by rw [beq_eq_false_iff_ne]; exact g7
                by_cases g44 : b.ty = 4
                · have b4 : (b.ty == 4) = true := by rw [beq_iff_eq]; exact g44
                  have HE : Hid (prsN s = ([], 0, 2)) := HPB.out (by unfold rtE; rw [if_pos (.inr (.inr ⟨rfl, g44⟩))])
                  clear HPB HOK
                  try clear gt
                  try clear g44
                  try clear g7
                  try clear gc
                  go_wp2_with fail
                  go_ret3
                  exact ⟨⟨none, 0, by rw [HE.out]; rfl, by rw [HE.out]; exact BlksAt.nil _ _, by rw [HE.out]; exact Nat.zero_le _, fun _ => rfl⟩, HBX.out⟩
                · have b4 : (b.ty == 4) = false := by rw [beq_eq_false_iff_ne]; exact g44
                  have HCB : Hid (cmt true b = true) := by unfold cmt; rw [decide_eq_false g44]; rfl
                  have HRT : Hid (¬ L.length = 1024 → rtE L.length true b = chkE b) := fun h => rtE_of (⟨fun q => absurd q gc, fun q => absurd q gt⟩) (by omega) (fun q => g44 q.2) h
                  by_cases hk : L.length = 1024
                  · have HE : Hid (prsN s = ([], 0, 5)) := by
                      have h := HOK.out (by omega)
                      have h5 : rtE L.length true b = 5 := by
                        unfold rtE
                        rw [if_neg (by rintro (q | q | q); exact q (⟨fun q => absurd q gc, fun q => absurd q gt⟩); omega; exact (fun q => g44 q.2) q), if_pos hk]
                      rw [h, h5]
                      rfl
                    have bk : ((L.length : Int) == 1024) = true := by rw [beq_iff_eq]; omega
                    clear HPB HOK HRT hk
                    try clear gt
                    try clear g44
                    try clear g7
                    try clear gc
                    go_wp2_with fail
                    go_ret3
                    exact ⟨⟨none, 0, by rw [HE.out]; rfl, by rw [HE.out]; exact BlksAt.nil _ _, by rw [HE.out]; exact Nat.zero_le _, fun _ => rfl⟩, HBX.out⟩
                  · have bk : ((L.length : Int) == 1024) = false := by rw [beq_eq_false_iff_ne]; omega
                    have HRE : Hid (rtE L.length true b = chkE b) := HRT.out hk
                    have kc := KC.out b HBS.out
                    have HK : Hid (¬ L.length = 1024) := hk
                    clear hk
                    try clear gt
                    try clear g44
                    try clear g7
                    try clear gc
                    go_wp2_with fail
                    generalize hwx : World.alloc wr2 _ = w3
                    have HX3 : Hid (QX w w3 L (.slice ao L.length cap)) := by rw [← hwx]; exact HQ2.out.low ((Below.refl _ _).alloc (Nat.le_refl _) _)
                    have HB3 : Hid (w3.heap[wr2.heap.size]? = some (.cells (blkC b) 36 (0, 0))) := by rw [← hwx]; exact heap_alloc_new _ _
                    clear hwx
                    refine (kc w3).mono ?_
                    rintro e w4 ⟨rfl, hb4⟩
                    have HX4 : Hid (QX w w4 L (.slice ao L.length cap)) := HX3.out.low hb4
                    have HB4 : Hid (w4.heap[wr2.heap.size]? = some (.cells (blkC b) 36 (0, 0))) := keptB2 HB3.out hb4
                    clear hb4 HX3 HB3 kc KC
                    by_cases he0 : chkE b = 0
                    · have HPG : Hid (prsN s = if 128 ≤ hd then (L ++ [b], a', 0) else prs s (1024 - L.length) a' (L ++ [b]) (cmt true b)) := by
                        exact (HOK.out (by omega)).trans (if_pos (HRE.out.trans he0))
                      have x0 := (blk_cells HB4.out).1
                      have x1 := (blk_cells HB4.out).2
                      have HX5 : Hid (QX w (w4.alloc (.cells (blkC b) 36)) L (.slice ao L.length cap)) := HX4.out.low ((Below.refl _ _).alloc (Nat.le_refl _) _)
                      have HNW : Hid (∀ j u, [Value.int .i64 b.ty, .string b.body][j]? = some u → (w4.alloc (.cells (blkC b) 36)).cell? ((⟨w4.heap.size, 0, none⟩ : Addr).add j) = some u) := fun j u hj => two_cells (w := w4) (e := 36) j u hj
                      rw [he0]
                      clear HPB HOK HRT HRE he0 HX4 HB4
                      by_cases gl : 128 ≤ hd
                      · have HE : Hid (prsN s = (L ++ [b], a', 0)) := HPG.out.trans (if_pos gl)
                        have gli : decide ((127 : Int) < (hd : Int)) = true := decide_eq_true (by omega)
                        clear HPG gl
                        go_wp2_with (at_builtin; go_loud (refine wpList_append_row _ rfl (.tmp 77) (.tmp 79) 40 rfl w.heap.size 36 iK (.agg zeroB) 2 24 Tryd.underlying40 HIK.out.1 HIK.out.2.1 HIK.out.2.2.1 HIK.out.2.2.2 rfl (by decide) (.slice ao L.length cap) L.length _ rfl HX5.out.own ⟨w4.heap.size, 0, none⟩ 1 1 [.int .i64 b.ty, .string b.body] rfl rfl HNW.out (by simp [Value.oneCell']) (by simp only [maxLen]; omega) (by omega) HX5.out.bl.size ?_); intro v6 w6 ho6 hg6 hx6)
                        have HX6 : Hid (QX w w6 (L ++ [b]) v6) := HX5.out.push ho6.out hg6.out
                        clear HX5 HNW HIK ho6 hg6 hx6 x0 x1
                        obtain ⟨ao6, cap6, e6, h61, h62, h63⟩ := BlksAt.own HX6.out.own
                        have H6 : Hid (BlksAt w6 ao6 (L ++ [b]) ∧ (L ++ [b]).length ≤ cap6 ∧ (ao6 = none → cap6 = 0)) := ⟨h61, h62, h63⟩
                        have hl6 : (L ++ [b]).length = L.length + 1 := by simp
                        rw [hl6] at e6
                        clear h61 h62 h63
                        subst e6
                        try go_wp2_with fail
                        go_ret3
                        exact ⟨⟨ao6, cap6, by rw [HE.out]; show _ = Ending.returned (.tuple #[.slice ao6 (L ++ [b]).length cap6, .int .i64 (a' : Int), _]); rw [hl6, ← HAI.out]; rfl, by rw [HE.out]; exact H6.out.1, by rw [HE.out]; exact H6.out.2.1, H6.out.2.2⟩, HX6.out.bl⟩
                      · have hl6 : (L ++ [b]).length = L.length + 1 := by simp
                        have HN : Hid (prsN s = prs s (1025 - (L ++ [b]).length) a' (L ++ [b]) ((L ++ [b]).any fun x => decide (x.ty = 4))) := by
                          have hany : ((L ++ [b]).any fun x => decide (x.ty = 4)) = cmt true b := by
                            rw [List.any_append, HHC.out]
                            simp [cmt]
                          show _ = _
                          rw [HPG.out, if_neg gl, hany, hl6, show 1025 - (L.length + 1) = 1024 - L.length by omega]
                        have gli : decide ((127 : Int) < (hd : Int)) = false := decide_eq_false (by omega)
                        have HCM : Hid (((L ++ [b]).any fun x => decide (x.ty = 4)) = cmt true b) := by
                          show _ = _
                          rw [List.any_append, HHC.out]
                          simp [cmt]
                        clear HPG gl
                        go_wp2_with (at_builtin; go_loud (refine wpList_append_row _ rfl (.tmp 77) (.tmp 79) 40 rfl w.heap.size 36 iK (.agg zeroB) 2 24 Tryd.underlying40 HIK.out.1 HIK.out.2.1 HIK.out.2.2.1 HIK.out.2.2.2 rfl (by decide) (.slice ao L.length cap) L.length _ rfl HX5.out.own ⟨w4.heap.size, 0, none⟩ 1 1 [.int .i64 b.ty, .string b.body] rfl rfl HNW.out (by simp [Value.oneCell']) (by simp only [maxLen]; omega) (by omega) HX5.out.bl.size ?_); intro v6 w6 ho6 hg6 hx6)
                        have HX6 : Hid (QX w w6 (L ++ [b]) v6) := HX5.out.push ho6.out hg6.out
                        clear HX5 HNW HIK ho6 hg6 hx6 x0 x1
                        obtain ⟨ao6, cap6, e6, h61, h62, h63⟩ := BlksAt.own HX6.out.own
                        have H6 : Hid (BlksAt w6 ao6 (L ++ [b]) ∧ (L ++ [b]).length ≤ cap6 ∧ (ao6 = none → cap6 = 0)) := ⟨h61, h62, h63⟩
                        rw [hl6] at e6
                        clear h61 h62 h63
                        subst e6
                        try go_wp2_with fail
                        go_roundw
                        case rel => exact ⟨a', L ++ [b], by have := HK.out; rw [hl6]; omega, by show _ = Value.int .i64 _; rw [← HAI.out], by rw [HCM.out]; rw [HCB.out]; rfl, by omega, by rw [hl6] at *; exact HX6.out, HN.out⟩
                        case measure => show 1025 - (L.length + 1) < 1025 - L.length; omega
                    · have HE : Hid (prsN s = ([], 0, chkE b)) := (HOK.out (by omega)).trans (by rw [HRE.out, if_neg he0])
                      have bz : (chkE b != 0) = true := by rw [bne_iff_ne]; exact he0
                      generalize chkE b = E at *
                      clear HPB HOK HRT HRE he0
                      go_wp2_with fail
                      go_ret3
                      exact ⟨⟨none, 0, by rw [HE.out]; rfl, by rw [HE.out]; exact BlksAt.nil _ _, by rw [HE.out]; exact Nat.zero_le _, fun _ => rfl⟩, HX4.out.bl⟩
      · have HE : Hid (prsN s = ([], 0, 2)) := HP.out.trans (by rw [prs, if_neg (fun q => gv q.2)])
        generalize numA s (a + 1) 3 = v at *
        generalize s.extract (a + 1) (a + 4) = X at *
        have gvi : (s.size : Int) - ((a : Int) + 4) < (v : Int) := by omega
        have HBL : Hid (Below w.heap.size w wr) := HQ.out.bl
        clear HP HQ KC hc4 hn1 g4 gv
        cases hc
        all_goals
          go_wp2_with fail
          go_quiet ((go_at_call 33; exact Calls.quiet_of_same (kf _)))
          go_wp2_with fail
          go_ret3
          exact ⟨⟨none, 0, by rw [HE.out]; rfl, by rw [HE.out]; exact BlksAt.nil _ _, by rw [HE.out]; exact Nat.zero_le _, fun _ => rfl⟩, HBL.out.trans ((below_drewN (Below.refl wr.heap.size wr) nq).mono HBL.out.size)⟩
    · have HE : Hid (prsN s = ([], 0, 2)) := HP.out.trans (by rw [prs, if_neg (fun q => g4 q.1)])
      have g4i : (s.size : Int) < (a : Int) + 4 := by omega
      have HBL : Hid (Below w.heap.size w wr) := HQ.out.bl
      clear HP HQ KC
      cases hc
      all_goals
        go_wp2_with fail
        go_ret3
        exact ⟨⟨none, 0, by rw [HE.out]; rfl, by rw [HE.out]; exact BlksAt.nil _ _, by rw [HE.out]; exact Nat.zero_le _, fun _ => rfl⟩, HBL.out⟩

end Go.Proofs.YtfmpiidnemhijaaDoor

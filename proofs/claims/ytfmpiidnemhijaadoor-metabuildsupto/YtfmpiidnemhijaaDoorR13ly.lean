/- Own text: the walk of the document's Lay. -/
import Derived.Test.YtfmpiidnemhijaaDoorR13prs
import Derived.Test.YtfmpiidnemhijaaDoorQ13bld
namespace Go.Proofs.YtfmpiidnemhijaaDoor
open Go.RowKit
set_option linter.unusedSimpArgs false
set_option linter.unusedVariables false

theorem conv_one (w : World) (g x : Nat) (hx : x < 256) (h : w.heap[g]? = some (.cells #[.int .u8 (x : Int)] 5 (0, 0))) : (convert 63 9 (.slice (some ⟨g, 0, none⟩) 1 1)).run Tryd.prog w = .ok (.string (textOf [x])) w := by
  rw [textOf_eq]
  refine run_convert_bytes_arg w 63 5 Tryd.underlying63 Tryd.underlying5 g 0 1 1 _ (by simp) (fun i hi => ?_) 9 Tryd.underlying9
  obtain rfl : i = 0 := by omega
  rw [cell_of_row _ _ _ _ _ _ h]
  rfl
/-- Append of a row to a row that the call owns, in a region that draws. -/
theorem step_append_own {P : Program} (w : World) {ops : Array Oper} {o : Oper} {a : Act} {K : Act → World → Prop} {Q : Exit → Act → World → Prop} {E : Prop} (hgd : o.guard = none) (s x : Operand) (t : TypeId)
    (ho : o.op = .call { callee := .builtin .append, args := #[s, x], argTypes := #[t, t] })
    (base : Nat) (e : TypeId) (i : TypeInfo) (z : Value) (size bytes : Nat) (ht : P.underlying t = some (.slice e)) (hi : P.info? e = some i) (hz : i.zero = some z) (hsize : i.size = size) (hby : i.bytes = bytes) (hzs : z.cells.size = size) (hsz : 0 < size)
    (v : Value) (n : Nat) (xs : List Value) (hs : a.eval s = v) (hown : w.ownsRow base e size v n xs)
    (ad : Addr) (m c : Nat) (news : List Value) (hx : a.eval x = .slice (some ad) m c) (hl : news.length = m * size) (hnews : ∀ j u, news[j]? = some u → w.cell? (ad.add j) = some u) (h1 : ∀ u ∈ news, u.oneCell' = true)
    (h63 : n + m ≤ maxLen) (hbytes : (n + m) * bytes ≤ 140737488355328) (hbase : base ≤ w.heap.size)
    (h : ∀ v' w', Hid (w'.ownsRow base e size v' (n + m) (xs ++ news)) → Hid (w.grownBy w' v.ownBlock) → K (a.put o.dst v') w') : if Region.wanted o (yielded ops a.tmps) = true then Oper.wp P o a w K Q else E := by
  have hw : Region.wanted o (yielded ops a.tmps) = true := by simp [Region.wanted, hgd]
  rw [if_pos hw]
  obtain ⟨v', w', hrun, r1, r2, _, r4⟩ := run_append_own_at (P := P) w base t o.type e i z size bytes ht hi hz hsize hby hzs hsz v n xs hown ad m c news hl hnews h1 h63 hbytes hbase
  unfold Oper.wp execOp
  simp only [ho, resolve, invoke, builtin, Sem.run_bind, Sem.run_pure, Result.andThen_ok, List.map_toArray, List.map_cons, List.map_nil, hs, hx, hrun]
  exact h v' w' r1 r2
theorem info9 : (Tryd.prog.info? 9).map (fun i => (i.zero, i.size, i.bytes)) = some (some (.string ⟨#[]⟩), 1, 16) := by kernel_rfl
/-- Lay's row so far. -/
structure LT (w0 wx : World) (l : List Blk) (k : Nat) (v : Value) : Prop where
  ex : ∃ ts : List ByteArray, wx.ownsRow w0.heap.size 9 1 v k (ts.map Value.string) ∧ ts.length = k ∧ ts.flatMap bytesOf = layU l k
  bl : Below w0.heap.size w0 wx
theorem LT.low {w0 wx w' : World} {l : List Blk} {k : Nat} {v : Value} (h : LT w0 wx l k v) (hb : Below wx.heap.size wx w') : LT w0 w' l k v := by
  obtain ⟨ts, h1, h2, h3⟩ := h.ex
  exact ⟨⟨ts, owns_below h1 hb, h2, h3⟩, h.bl.trans (hb.mono h.bl.size)⟩
theorem layU_all (l : List Blk) : layU l l.length = layL l := by
  unfold layU
  rw [if_neg (by omega)]
set_option maxRecDepth 20000 in
set_option maxHeartbeats 6400000 in
theorem xlay_any (l : List Blk) (lo : Option Addr) (lc : Nat) (w : World) (hl : BlksAt w lo l) (hn : l.length ≤ 1048576) (hc : ∀ b ∈ l, 0 ≤ b.ty ∧ b.ty ≤ 126 ∧ b.body.size ≤ 16777215) :
    Calls Tryd.prog 40 #[.slice lo l.length lc] w fun e w' => (∃ v, e = .returned v ∧ LT w w' l l.length v) ∧ Below w.heap.size w w' := by
  have HL : Hid (BlksAt w lo l) := hl
  have HC : Hid (∀ b ∈ l, 0 ≤ b.ty ∧ b.ty ≤ 126 ∧ b.body.size ≤ 16777215) := hc
  have H0 : Hid (LT w w l 0 noS) := ⟨⟨[], World.ownsRow_nil _ _ _ _, rfl, by rw [layU_zero]; rfl⟩, Below.refl _ _⟩
  have KB : Hid (∀ m : Nat, m ≤ 16777215 → ∀ wx, Calls Tryd.prog 57 #[.int .i64 (m : Int), .int .i64 3] wx fun e w' => e = .returned (.tuple #[.string (textOf (S2.highL m 3)), .int .i64 0]) ∧ Below wx.heap.size wx w') := fun m hm wx => by
    have hf : S2.fitsB (m : Int) ((3 : Nat) : Int) = true := S2.fits_of_nat m 3 (by decide) (by decide) (by omega)
    have h := S2.refbe_spec (m : Int) ((3 : Nat) : Int) (by omega) (by omega) wx
    rw [S2.beT_nat m 3 hf, S2.wE_yes _ _ hf] at h
    exact h
  obtain ⟨iS, hS0, hS1, hS2, hS3⟩ := info_parts5 info9
  have HIS : Hid (Tryd.prog.info? 9 = some iS ∧ iS.zero = some (.string ⟨#[]⟩) ∧ iS.size = 1 ∧ iS.bytes = 16) := ⟨hS0, hS1, hS2, hS3⟩
  clear hl hc hS0 hS1 hS2 hS3
  go_enter Tryd.func40, Tryd.ntmps40
  go_wp2_with fail
  go_loopw [3, 4] (fun g t wr => ∃ k : Nat, k ≤ l.length ∧ t = .int .i64 (k : Int) ∧ LT w wr l k g) (fun _ t _ => l.length - (intOf t).toNat)
  case atStart => exact ⟨0, Nat.zero_le _, rfl, H0.out⟩
  case round =>
    obtain ⟨k, hk, rfl, hq⟩ := hrel
    obtain ⟨ts0, hts0, _⟩ := hq.ex
    obtain ⟨ao, cap, hg, _⟩ := owns_shape hts0
    subst hg
    clear hts0
    have HQ : Hid (LT w wr l k (.slice ao k cap)) := hq
    clear hq H0
    by_cases hlt : k < l.length
    · obtain ⟨b, hb⟩ : ∃ b, l[k]? = some b := ⟨_, List.getElem?_eq_getElem hlt⟩
      obtain ⟨bb, off, rfl, hcl⟩ := HL.out.at k b hb
      have HCL : Hid (∀ wx, Below w.heap.size w wx → (wx.cell? ⟨bb, off + k * 2, none⟩ = some (.int .i64 b.ty) ∧ wx.cell? ⟨bb, off + k * 2 + 1, none⟩ = some (.string b.body))) := hcl
      have HLU : Hid (layU l (k + 1) = layU l k ++ (hedL b (decide (k + 1 = l.length)) ++ bytesOf b.body)) := layU_step l k b hb
      obtain ⟨hty0, hty1, hbs⟩ := HC.out b (List.mem_of_getElem? hb)
      obtain ⟨x0, x1⟩ := hcl wr HQ.out.bl
      have hand := i64_and127 b.ty
      rw [Int.emod_eq_of_lt hty0 (by omega)] at hand
      obtain ⟨tn, htn⟩ : ∃ tn : Nat, b.ty = (tn : Int) := ⟨b.ty.toNat, by omega⟩
      have htn1 : tn ≤ 126 := by omega
      have HTY : Hid (b.ty = (tn : Int)) := htn
      replace hand : bits BinOp.and IntKind.i64 b.ty 127 = (tn : Int) := hand.trans htn
      clear htn hty0 hty1
      have kbe := fun wx => KB.out b.body.size hbs wx
      have HT3 : Hid (bytesOf (textOf (S2.highL b.body.size 3)) = S2.highL b.body.size 3) := S2.bytesOf_textOf _ (S2.highL_lt _ _)
      have hz3 : (textOf (S2.highL b.body.size 3)).size = 3 := by rw [S2.textOf_size, S2.highL_length]
      generalize textOf (S2.highL b.body.size 3) = T3 at *
      clear hcl hb HC KB HL
      have kbe := kbe wr
      by_cases hke : k + 1 = l.length
      · have bl : ((k : Int) == (l.length : Int) - 1) = true := by rw [beq_iff_eq]; omega
        obtain ⟨hn, hhn⟩ : ∃ x : Nat, x = tn + 128 := ⟨_, rfl⟩
        have HHD : Hid (hn :: S2.highL b.body.size 3 = hedL b (decide (k + 1 = l.length))) := by
          rw [hhn, decide_eq_true hke]
          unfold hedL
          rw [show b.ty.toNat = tn by have := HTY.out; omega]
          rfl
        have HHN : Hid (hn = tn + 128) := hhn
        have hn1 : hn ≤ 254 := by omega
        clear hhn hke
        go_wp2_with fail
        refine kbe.mono ?_
        rintro e w2 ⟨rfl, hb2⟩
        have HQ2 : Hid (LT w w2 l k (.slice ao k cap)) := HQ.out.low hb2
        clear hb2 kbe HQ
        go_upto_region 9 with fail
        refine wp_region_held_drew (S := fun wx => Hid (wx.cell? ⟨bb, off + k * 2, none⟩ = some (.int .i64 b.ty) ∧ wx.cell? ⟨bb, off + k * 2 + 1, none⟩ = some (.string b.body))) (by kernel_rfl) (show Hid _ from HCL.out _ (HQ2.out.bl.trans ⟨rfl, rfl, rfl, Nat.le_refl _, fun _ _ => rfl⟩)) (fun hS => ?_)
        refine wpAnyH_take (i := 0) (v := .slice ao k cap) rfl (by kernel_rfl) (by kernel_rfl) (by kernel_rfl) (fun _ _ _ h => h) (Or.inl ⟨by rfl, fun w hSw => by go_simp⟩) hS ?_
        simp only [Act.put, List.getElem_toArray, List.getElem_cons_succ, List.getElem_cons_zero, List.setIfInBounds_toArray, List.set_cons_zero, List.set_cons_succ]
        refine wpAnyH_take (i := 1) (v := .int .i64 ((tn : Int) + 128)) rfl (by kernel_rfl) (by kernel_rfl) (by kernel_rfl) (fun _ _ _ h => h) (Or.inl ⟨by rfl, fun w hSw => by go_simp⟩) hS ?_
        simp only [Act.put, List.getElem_toArray, List.getElem_cons_succ, List.getElem_cons_zero, List.setIfInBounds_toArray, List.set_cons_zero, List.set_cons_succ]
        refine wpAnyH_take (i := 2) (v := .int .u8 (hn : Int)) rfl (by kernel_rfl) (by kernel_rfl) (by kernel_rfl) (fun _ _ _ h => h) (Or.inl ⟨by rfl, fun w hSw => by go_simp <;> (have q := HHN.out; first | omega | (rw [IntKind.wrap_u8]; omega))⟩) hS ?_
        simp only [Act.put, List.getElem_toArray, List.getElem_cons_succ, List.getElem_cons_zero, List.setIfInBounds_toArray, List.set_cons_zero, List.set_cons_succ]
        refine wpAnyH_take (i := 5) (v := .string T3) rfl (by kernel_rfl) (by kernel_rfl) (by kernel_rfl) (fun _ _ _ h => h) (Or.inl ⟨by rfl, fun w hSw => by go_simp⟩) hS ?_
        simp only [Act.put, List.getElem_toArray, List.getElem_cons_succ, List.getElem_cons_zero, List.setIfInBounds_toArray, List.set_cons_zero, List.set_cons_succ]
        refine wpAnyH_take (i := 7) (v := .slice (some ⟨bb, off, none⟩) l.length lc) rfl (by kernel_rfl) (by kernel_rfl) (by kernel_rfl) (fun _ _ _ h => h) (Or.inl ⟨by rfl, fun w hSw => by go_simp⟩) hS ?_
        simp only [Act.put, List.getElem_toArray, List.getElem_cons_succ, List.getElem_cons_zero, List.setIfInBounds_toArray, List.set_cons_zero, List.set_cons_succ]
        refine wpAnyH_take (i := 8) (v := .int .i64 (k : Int)) rfl (by kernel_rfl) (by kernel_rfl) (by kernel_rfl) (fun _ _ _ h => h) (Or.inl ⟨by rfl, fun w hSw => by go_simp⟩) hS ?_
        simp only [Act.put, List.getElem_toArray, List.getElem_cons_succ, List.getElem_cons_zero, List.setIfInBounds_toArray, List.set_cons_zero, List.set_cons_succ]
        refine wpAnyH_take (i := 9) (v := .pointer (some ⟨bb, off + k * 2, none⟩)) rfl (by kernel_rfl) (by kernel_rfl) (by kernel_rfl) (fun _ _ _ h => h) (Or.inl ⟨by rfl, fun w hSw => by go_simp⟩) hS ?_
        simp only [Act.put, List.getElem_toArray, List.getElem_cons_succ, List.getElem_cons_zero, List.setIfInBounds_toArray, List.set_cons_zero, List.set_cons_succ]
        refine wpAnyH_take (i := 10) (v := .pointer (some ⟨bb, off + k * 2 + 1, none⟩)) rfl (by kernel_rfl) (by kernel_rfl) (by kernel_rfl) (fun _ _ _ h => h) (Or.inl ⟨by rfl, fun w hSw => by go_simp⟩) hS ?_
        simp only [Act.put, List.getElem_toArray, List.getElem_cons_succ, List.getElem_cons_zero, List.setIfInBounds_toArray, List.set_cons_zero, List.set_cons_succ]
        refine wpAnyH_take (i := 11) (v := .string b.body) rfl (by kernel_rfl) (by kernel_rfl) (by kernel_rfl) (fun _ _ _ h => h) (Or.inl ⟨by rfl, fun w hSw => by obtain ⟨c0, c1⟩ := hSw.out; go_simp⟩) hS ?_
        simp only [Act.put, List.getElem_toArray, List.getElem_cons_succ, List.getElem_cons_zero, List.setIfInBounds_toArray, List.set_cons_zero, List.set_cons_succ]
        refine wpAnyH_ready (rs := [3]) (by kernel_rfl) (by simp) ?_
        refine AllReadyH.cons rfl (fun K hK => ?_) AllReadyH.nil
        go_simp
        generalize hwy : World.drew (World.alloc w2 _) = wy
        have HY : Hid (wy.heap[w2.heap.size]? = some (.cells #[.int .u8 (hn : Int)] 5 (0, 0)) ∧ LT w wy l k (.slice ao k cap)) := by
          have hb : Below w2.heap.size w2 wy := by rw [← hwy]; exact ⟨rfl, rfl, rfl, by simp [World.drew], fun k hk => ((Below.refl w2.heap.size w2).alloc (Nat.le_refl _) _).block k hk⟩
          exact ⟨by rw [← hwy]; exact heap_alloc_new _ _, HQ2.out.low hb⟩
        refine hK.out _ _ (show Hid _ from HCL.out wy HY.out.2.bl) (fun hS2 => ?_)
        clear hK K hS hwy HQ2
        generalize w2.heap.size = g2 at *
        try simp only [Act.put, List.getElem_toArray, List.getElem_cons_succ, List.getElem_cons_zero, List.setIfInBounds_toArray, List.set_cons_zero, List.set_cons_succ]
        have hcv := conv_one wy g2 hn (by omega) HY.out.1
        refine wpAnyH_ready (rs := [4]) (by kernel_rfl) (by simp) ?_
        refine AllReadyH.cons rfl (fun K hK => ?_) AllReadyH.nil
        go_simp
        refine hK.out _ _ (show Hid _ from HCL.out wy HY.out.2.bl) (fun hS3 => ?_)
        clear hK K hS2 hcv
        try simp only [Act.put, List.getElem_toArray, List.getElem_cons_succ, List.getElem_cons_zero, List.setIfInBounds_toArray, List.set_cons_zero, List.set_cons_succ]
        obtain ⟨H1, hH1⟩ : ∃ x, x = textOf [hn] := ⟨_, rfl⟩
        have hz1 : H1.size = 1 := by rw [hH1, S2.textOf_size]; rfl
        have HTX : Hid (bytesOf (H1 ++ T3 ++ b.body) = hedL b (decide (k + 1 = l.length)) ++ bytesOf b.body) := by
          rw [S2.bytesOf_append, S2.bytesOf_append, hH1, HT3.out, S2.bytesOf_textOf [hn] (by intro x hx; simp at hx; omega)]
          rw [← HHD.out]
          rfl
        rw [← hH1]
        clear hH1
        refine wpAnyH_take (i := 6) (v := .string (H1 ++ T3)) rfl (by kernel_rfl) (by kernel_rfl) (by kernel_rfl) (fun _ _ _ h => h) (Or.inl ⟨by rfl, fun w hSw => by go_simp <;> omega⟩) hS3 ?_
        simp only [Act.put, List.getElem_toArray, List.getElem_cons_succ, List.getElem_cons_zero, List.setIfInBounds_toArray, List.set_cons_zero, List.set_cons_succ]
        refine wpAnyH_take (i := 12) (v := .string (H1 ++ T3 ++ b.body)) rfl (by kernel_rfl) (by kernel_rfl) (by kernel_rfl) (fun _ _ _ h => h) (Or.inl ⟨by rfl, fun w hSw => by go_simp <;> omega⟩) hS3 ?_
        simp only [Act.put, List.getElem_toArray, List.getElem_cons_succ, List.getElem_cons_zero, List.setIfInBounds_toArray, List.set_cons_zero, List.set_cons_succ]
        refine wpAnyH_ready (rs := [13]) (by kernel_rfl) (by simp) ?_
        refine AllReadyH.cons rfl (fun K hK => ?_) AllReadyH.nil
        go_simp
        generalize hwz : World.alloc wy _ = wz
        have HZ : Hid ((∀ j u, [Value.string (H1 ++ T3 ++ b.body)][j]? = some u → wz.cell? ((⟨wy.heap.size, 0, none⟩ : Addr).add j) = some u) ∧ LT w wz l k (.slice ao k cap)) := by
          rw [← hwz]
          exact ⟨one_new wy _ _, HY.out.2.low ((Below.refl _ _).alloc (Nat.le_refl _) _)⟩
        refine hK.out _ _ (show Hid _ from HCL.out wz HZ.out.2.bl) (fun hS4 => ?_)
        clear hK K hS3 hwz HY
        generalize wy.heap.size = gy at *
        try simp only [Act.put, List.getElem_toArray, List.getElem_cons_succ, List.getElem_cons_zero, List.setIfInBounds_toArray, List.set_cons_zero, List.set_cons_succ]
        obtain ⟨ts, hown, htl, htb⟩ := HZ.out.2.ex
        have HOW : Hid (wz.ownsRow w.heap.size 9 1 (.slice ao k cap) k (ts.map Value.string)) := hown
        have HTS : Hid (ts.length = k ∧ ts.flatMap bytesOf = layU l k) := ⟨htl, htb⟩
        clear hown htl htb
        refine wpAnyH_ready (rs := [14]) (by kernel_rfl) (by simp) ?_
        refine AllReadyH.cons rfl (fun K hK => ?_) AllReadyH.nil
        refine step_append_own _ rfl (.tmp 37) (.tmp 50) 87 rfl w.heap.size 9 iS (.string ⟨#[]⟩) 1 16 Tryd.underlying87 HIS.out.1 HIS.out.2.1 HIS.out.2.2.1 HIS.out.2.2.2 rfl (by decide) (.slice ao k cap) k _ rfl HOW.out ⟨gy, 0, none⟩ 1 1 [.string (H1 ++ T3 ++ b.body)] rfl rfl HZ.out.1 (by simp [Value.oneCell']) (by simp only [maxLen]; omega) (by omega) HZ.out.2.bl.size ?_
        intro v6 w6 ho6 hg6
        have HL6 : Hid (LT w w6 l (k + 1) v6) := by
          refine ⟨⟨ts ++ [H1 ++ T3 ++ b.body], by rw [List.map_append]; exact ho6.out, by rw [List.length_append, HTS.out.1]; rfl, ?_⟩, grown_to hg6.out HZ.out.2.bl HZ.out.2.bl.size (fun k e => (HOW.out.lt k e).1)⟩
          rw [List.flatMap_append, HTS.out.2, HLU.out, ← HTX.out]
          simp
        refine hK.out _ _ (show Hid _ from HCL.out w6 HL6.out.bl) (fun hS5 => ?_)
        clear hK K hS4 HZ HOW HTS ho6 hg6 HTX
        refine wpAnyH_take (i := 15) (v := v6) rfl (by kernel_rfl) (by kernel_rfl) (by kernel_rfl) (fun _ _ _ h => h) (Or.inl ⟨by rfl, fun w hSw => by go_simp⟩) hS5 ?_
        simp only [Act.put, List.getElem_toArray, List.getElem_cons_succ, List.getElem_cons_zero, List.setIfInBounds_toArray, List.set_cons_zero, List.set_cons_succ]
        refine wpAnyH_done (by kernel_rfl) ?_ _
        go_wp2_with fail
        go_roundw
        case rel => exact ⟨k + 1, by omega, by go_num, HL6.out⟩
        case measure => simp [intOf]; omega
      · have bl : ((k : Int) == (l.length : Int) - 1) = false := by rw [beq_eq_false_iff_ne]; omega
        obtain ⟨hn, hhn⟩ : ∃ x : Nat, x = tn := ⟨_, rfl⟩
        have HHD : Hid (hn :: S2.highL b.body.size 3 = hedL b (decide (k + 1 = l.length))) := by
          rw [hhn, decide_eq_false hke]
          unfold hedL
          rw [show b.ty.toNat = tn by have := HTY.out; omega]
          rfl
        have HHN : Hid (hn = tn) := hhn
        have hn1 : hn ≤ 254 := by omega
        clear hhn hke
        go_wp2_with fail
        refine kbe.mono ?_
        rintro e w2 ⟨rfl, hb2⟩
        have HQ2 : Hid (LT w w2 l k (.slice ao k cap)) := HQ.out.low hb2
        clear hb2 kbe HQ
        go_upto_region 9 with fail
        refine wp_region_held_drew (S := fun wx => Hid (wx.cell? ⟨bb, off + k * 2, none⟩ = some (.int .i64 b.ty) ∧ wx.cell? ⟨bb, off + k * 2 + 1, none⟩ = some (.string b.body))) (by kernel_rfl) (show Hid _ from HCL.out _ (HQ2.out.bl.trans ⟨rfl, rfl, rfl, Nat.le_refl _, fun _ _ => rfl⟩)) (fun hS => ?_)
        refine wpAnyH_take (i := 0) (v := .slice ao k cap) rfl (by kernel_rfl) (by kernel_rfl) (by kernel_rfl) (fun _ _ _ h => h) (Or.inl ⟨by rfl, fun w hSw => by go_simp⟩) hS ?_
        simp only [Act.put, List.getElem_toArray, List.getElem_cons_succ, List.getElem_cons_zero, List.setIfInBounds_toArray, List.set_cons_zero, List.set_cons_succ]
        refine wpAnyH_take (i := 1) (v := .int .i64 ((tn : Int))) rfl (by kernel_rfl) (by kernel_rfl) (by kernel_rfl) (fun _ _ _ h => h) (Or.inl ⟨by rfl, fun w hSw => by go_simp⟩) hS ?_
        simp only [Act.put, List.getElem_toArray, List.getElem_cons_succ, List.getElem_cons_zero, List.setIfInBounds_toArray, List.set_cons_zero, List.set_cons_succ]
        refine wpAnyH_take (i := 2) (v := .int .u8 (hn : Int)) rfl (by kernel_rfl) (by kernel_rfl) (by kernel_rfl) (fun _ _ _ h => h) (Or.inl ⟨by rfl, fun w hSw => by go_simp <;> (have q := HHN.out; first | omega | (rw [IntKind.wrap_u8]; omega))⟩) hS ?_
        simp only [Act.put, List.getElem_toArray, List.getElem_cons_succ, List.getElem_cons_zero, List.setIfInBounds_toArray, List.set_cons_zero, List.set_cons_succ]
        refine wpAnyH_take (i := 5) (v := .string T3) rfl (by kernel_rfl) (by kernel_rfl) (by kernel_rfl) (fun _ _ _ h => h) (Or.inl ⟨by rfl, fun w hSw => by go_simp⟩) hS ?_
        simp only [Act.put, List.getElem_toArray, List.getElem_cons_succ, List.getElem_cons_zero, List.setIfInBounds_toArray, List.set_cons_zero, List.set_cons_succ]
        refine wpAnyH_take (i := 7) (v := .slice (some ⟨bb, off, none⟩) l.length lc) rfl (by kernel_rfl) (by kernel_rfl) (by kernel_rfl) (fun _ _ _ h => h) (Or.inl ⟨by rfl, fun w hSw => by go_simp⟩) hS ?_
        simp only [Act.put, List.getElem_toArray, List.getElem_cons_succ, List.getElem_cons_zero, List.setIfInBounds_toArray, List.set_cons_zero, List.set_cons_succ]
        refine wpAnyH_take (i := 8) (v := .int .i64 (k : Int)) rfl (by kernel_rfl) (by kernel_rfl) (by kernel_rfl) (fun _ _ _ h => h) (Or.inl ⟨by rfl, fun w hSw => by go_simp⟩) hS ?_
        simp only [Act.put, List.getElem_toArray, List.getElem_cons_succ, List.getElem_cons_zero, List.setIfInBounds_toArray, List.set_cons_zero, List.set_cons_succ]
        refine wpAnyH_take (i := 9) (v := .pointer (some ⟨bb, off + k * 2, none⟩)) rfl (by kernel_rfl) (by kernel_rfl) (by kernel_rfl) (fun _ _ _ h => h) (Or.inl ⟨by rfl, fun w hSw => by go_simp⟩) hS ?_
        simp only [Act.put, List.getElem_toArray, List.getElem_cons_succ, List.getElem_cons_zero, List.setIfInBounds_toArray, List.set_cons_zero, List.set_cons_succ]
        refine wpAnyH_take (i := 10) (v := .pointer (some ⟨bb, off + k * 2 + 1, none⟩)) rfl (by kernel_rfl) (by kernel_rfl) (by kernel_rfl) (fun _ _ _ h => h) (Or.inl ⟨by rfl, fun w hSw => by go_simp⟩) hS ?_
        simp only [Act.put, List.getElem_toArray, List.getElem_cons_succ, List.getElem_cons_zero, List.setIfInBounds_toArray, List.set_cons_zero, List.set_cons_succ]
        refine wpAnyH_take (i := 11) (v := .string b.body) rfl (by kernel_rfl) (by kernel_rfl) (by kernel_rfl) (fun _ _ _ h => h) (Or.inl ⟨by rfl, fun w hSw => by obtain ⟨c0, c1⟩ := hSw.out; go_simp⟩) hS ?_
        simp only [Act.put, List.getElem_toArray, List.getElem_cons_succ, List.getElem_cons_zero, List.setIfInBounds_toArray, List.set_cons_zero, List.set_cons_succ]
        refine wpAnyH_ready (rs := [3]) (by kernel_rfl) (by simp) ?_
        refine AllReadyH.cons rfl (fun K hK => ?_) AllReadyH.nil
        go_simp
        generalize hwy : World.drew (World.alloc w2 _) = wy
        have HY : Hid (wy.heap[w2.heap.size]? = some (.cells #[.int .u8 (hn : Int)] 5 (0, 0)) ∧ LT w wy l k (.slice ao k cap)) := by
          have hb : Below w2.heap.size w2 wy := by rw [← hwy]; exact ⟨rfl, rfl, rfl, by simp [World.drew], fun k hk => ((Below.refl w2.heap.size w2).alloc (Nat.le_refl _) _).block k hk⟩
          exact ⟨by rw [← hwy]; exact heap_alloc_new _ _, HQ2.out.low hb⟩
        refine hK.out _ _ (show Hid _ from HCL.out wy HY.out.2.bl) (fun hS2 => ?_)
        clear hK K hS hwy HQ2
        generalize w2.heap.size = g2 at *
        try simp only [Act.put, List.getElem_toArray, List.getElem_cons_succ, List.getElem_cons_zero, List.setIfInBounds_toArray, List.set_cons_zero, List.set_cons_succ]
        have hcv := conv_one wy g2 hn (by omega) HY.out.1
        refine wpAnyH_ready (rs := [4]) (by kernel_rfl) (by simp) ?_
        refine AllReadyH.cons rfl (fun K hK => ?_) AllReadyH.nil
        go_simp
        refine hK.out _ _ (show Hid _ from HCL.out wy HY.out.2.bl) (fun hS3 => ?_)
        clear hK K hS2 hcv
        try simp only [Act.put, List.getElem_toArray, List.getElem_cons_succ, List.getElem_cons_zero, List.setIfInBounds_toArray, List.set_cons_zero, List.set_cons_succ]
        obtain ⟨H1, hH1⟩ : ∃ x, x = textOf [hn] := ⟨_, rfl⟩
        have hz1 : H1.size = 1 := by rw [hH1, S2.textOf_size]; rfl
        have HTX : Hid (bytesOf (H1 ++ T3 ++ b.body) = hedL b (decide (k + 1 = l.length)) ++ bytesOf b.body) := by
          rw [S2.bytesOf_append, S2.bytesOf_append, hH1, HT3.out, S2.bytesOf_textOf [hn] (by intro x hx; simp at hx; omega)]
          rw [← HHD.out]
          rfl
        rw [← hH1]
        clear hH1
        refine wpAnyH_take (i := 6) (v := .string (H1 ++ T3)) rfl (by kernel_rfl) (by kernel_rfl) (by kernel_rfl) (fun _ _ _ h => h) (Or.inl ⟨by rfl, fun w hSw => by go_simp <;> omega⟩) hS3 ?_
        simp only [Act.put, List.getElem_toArray, List.getElem_cons_succ, List.getElem_cons_zero, List.setIfInBounds_toArray, List.set_cons_zero, List.set_cons_succ]
        refine wpAnyH_take (i := 12) (v := .string (H1 ++ T3 ++ b.body)) rfl (by kernel_rfl) (by kernel_rfl) (by kernel_rfl) (fun _ _ _ h => h) (Or.inl ⟨by rfl, fun w hSw => by go_simp <;> omega⟩) hS3 ?_
        simp only [Act.put, List.getElem_toArray, List.getElem_cons_succ, List.getElem_cons_zero, List.setIfInBounds_toArray, List.set_cons_zero, List.set_cons_succ]
        refine wpAnyH_ready (rs := [13]) (by kernel_rfl) (by simp) ?_
        refine AllReadyH.cons rfl (fun K hK => ?_) AllReadyH.nil
        go_simp
        generalize hwz : World.alloc wy _ = wz
        have HZ : Hid ((∀ j u, [Value.string (H1 ++ T3 ++ b.body)][j]? = some u → wz.cell? ((⟨wy.heap.size, 0, none⟩ : Addr).add j) = some u) ∧ LT w wz l k (.slice ao k cap)) := by
          rw [← hwz]
          exact ⟨one_new wy _ _, HY.out.2.low ((Below.refl _ _).alloc (Nat.le_refl _) _)⟩
        refine hK.out _ _ (show Hid _ from HCL.out wz HZ.out.2.bl) (fun hS4 => ?_)
        clear hK K hS3 hwz HY
        generalize wy.heap.size = gy at *
        try simp only [Act.put, List.getElem_toArray, List.getElem_cons_succ, List.getElem_cons_zero, List.setIfInBounds_toArray, List.set_cons_zero, List.set_cons_succ]
        obtain ⟨ts, hown, htl, htb⟩ := HZ.out.2.ex
        have HOW : Hid (wz.ownsRow w.heap.size 9 1 (.slice ao k cap) k (ts.map Value.string)) := hown
        have HTS : Hid (ts.length = k ∧ ts.flatMap bytesOf = layU l k) := ⟨htl, htb⟩
        clear hown htl htb
        refine wpAnyH_ready (rs := [14]) (by kernel_rfl) (by simp) ?_
        refine AllReadyH.cons rfl (fun K hK => ?_) AllReadyH.nil
        refine step_append_own _ rfl (.tmp 37) (.tmp 50) 87 rfl w.heap.size 9 iS (.string ⟨#[]⟩) 1 16 Tryd.underlying87 HIS.out.1 HIS.out.2.1 HIS.out.2.2.1 HIS.out.2.2.2 rfl (by decide) (.slice ao k cap) k _ rfl HOW.out ⟨gy, 0, none⟩ 1 1 [.string (H1 ++ T3 ++ b.body)] rfl rfl HZ.out.1 (by simp [Value.oneCell']) (by simp only [maxLen]; omega) (by omega) HZ.out.2.bl.size ?_
        intro v6 w6 ho6 hg6
        have HL6 : Hid (LT w w6 l (k + 1) v6) := by
          refine ⟨⟨ts ++ [H1 ++ T3 ++ b.body], by rw [List.map_append]; exact ho6.out, by rw [List.length_append, HTS.out.1]; rfl, ?_⟩, grown_to hg6.out HZ.out.2.bl HZ.out.2.bl.size (fun k e => (HOW.out.lt k e).1)⟩
          rw [List.flatMap_append, HTS.out.2, HLU.out, ← HTX.out]
          simp
        refine hK.out _ _ (show Hid _ from HCL.out w6 HL6.out.bl) (fun hS5 => ?_)
        clear hK K hS4 HZ HOW HTS ho6 hg6 HTX
        refine wpAnyH_take (i := 15) (v := v6) rfl (by kernel_rfl) (by kernel_rfl) (by kernel_rfl) (fun _ _ _ h => h) (Or.inl ⟨by rfl, fun w hSw => by go_simp⟩) hS5 ?_
        simp only [Act.put, List.getElem_toArray, List.getElem_cons_succ, List.getElem_cons_zero, List.setIfInBounds_toArray, List.set_cons_zero, List.set_cons_succ]
        refine wpAnyH_done (by kernel_rfl) ?_ _
        go_wp2_with fail
        go_roundw
        case rel => exact ⟨k + 1, by omega, by go_num, HL6.out⟩
        case measure => simp [intOf]; omega
    · have hkl : k = l.length := by omega
      subst hkl
      clear KB HC HL
      go_wp2_with fail
      go_ret
      exact ⟨⟨_, rfl, HQ.out⟩, HQ.out.bl⟩

end Go.Proofs.YtfmpiidnemhijaaDoor

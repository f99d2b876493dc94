/- Own text. -/
import Derived.Test.YtfpfabmbipmipaaGreatDoorD36
set_option linter.unusedSimpArgs false
set_option linter.unusedVariables false
set_option maxRecDepth 20000
set_option maxHeartbeats 12800000
namespace Go.Proofs.YtfpfabmbipmipaaGreatDoor
open Go.RowKit
theorem pad_at (a1 : Nat) : a1 + padOf a1 = 8 * ((a1 + 7) / 8) := by unfold padOf; omega
theorem re_pad (x : Nat) (s : ByteArray) (hs : s.size <= 140737488351232) (a1 m : Nat) (hm : m = (a1 + 7) / 8) (ha : a1 <= 8 * s.size) (w : World) (hr : Rd w x s a1) (hL : Lay w) (hx4 : 4 <= x) (hp : ¬ bitsAt s a1 (padOf a1) = 0) : Calls Tryz.prog 47 #[.pointer (some ⟨x, 0, none⟩), .string s] w fun en w' => en = .returned (.bool false) /\ Stays (only x) w w' := by
 have kal := ralign_spec x s (by omega) a1 ha w hr
 rw [pad_at, <- hm] at kal
 have hbe : ((bitsAt s a1 (padOf a1) : Int) == 0) = false := eQf (by omega)
 clear hp hr hL
 generalize bitsAt s a1 (padOf a1) = u at *
 go_enter Tryz.func47, Tryz.ntmps47
 go_wp2_with fail
 refine kal.mono ?_
 rintro en w1 ⟨rfl, h1, h2⟩
 have HR : Hid (Rd w1 x s (8 * m) /\ Stays (only x) w w1) := ⟨h1, h2⟩
 clear h1 h2 kal
 go_wp2_with fail
 go_ret
 exact ⟨rfl, HR.out.2⟩
theorem re_end (x : Nat) (s : ByteArray) (hs : s.size <= 140737488351232) (a1 m : Nat) (hm : m = (a1 + 7) / 8) (ha : a1 <= 8 * s.size) (w : World) (hr : Rd w x s a1) (hL : Lay w) (hx4 : 4 <= x) (hp : bitsAt s a1 (padOf a1) = 0) (he : 8 * s.size < 8 * m + 16) : Calls Tryz.prog 47 #[.pointer (some ⟨x, 0, none⟩), .string s] w fun en w' => en = .returned (.bool false) /\ Stays (only x) w w' := by
 have kal := ralign_spec x s (by omega) a1 ha w hr
 rw [pad_at, <- hm] at kal
 have KS : Hid (∀ wx, (Rd wx x s (8 * m) /\ Stays (only x) w wx) -> Calls Tryz.prog 97 #[.pointer (some ⟨x, 0, none⟩), .string s, .int .i64 16, .func (.func 25) #[] #[]] wx fun en w' => en = .returned (.bool false) /\ Stays (only x) w w') := fun wx hh => (f_sum16_end x s hs m (by omega) he wx hh.1).mono fun en w' q => ⟨q.1, hh.2.trans (Stays.of_below q.2 (only x)) (fun _ _ h => h)⟩
 have hbe : ((bitsAt s a1 (padOf a1) : Int) == 0) = true := eQt (by omega)
 clear hp hr hL
 generalize bitsAt s a1 (padOf a1) = u at *
 go_enter Tryz.func47, Tryz.ntmps47
 go_wp2_with fail
 refine kal.mono ?_
 rintro en w1 ⟨rfl, h1, h2⟩
 have HR : Hid (Rd w1 x s (8 * m) /\ Stays (only x) w w1) := ⟨h1, h2⟩
 clear h1 h2 kal
 go_wp2_with fail
 refine (KS.out _ HR.out).mono ?_
 rintro en w2 ⟨rfl, hs2⟩
 have HS := kQ hs2
 clear hs2
 clear KS HR
 go_wp2_with fail
 go_ret
 exact ⟨rfl, HS.out⟩
theorem re_ok (x : Nat) (s : ByteArray) (hs : s.size <= 140737488351232) (a1 m : Nat) (hm : m = (a1 + 7) / 8) (ha : a1 <= 8 * s.size) (w : World) (hr : Rd w x s a1) (hL : Lay w) (hx4 : 4 <= x) (hp : bitsAt s a1 (padOf a1) = 0) (he : 8 * m + 16 <= 8 * s.size) (hc : bitsAt s (8 * m) 16 = crc16N ((bytesOf s).take m)) : Calls Tryz.prog 47 #[.pointer (some ⟨x, 0, none⟩), .string s] w fun en w' => en = .returned (.bool true) /\ Rd w' x s (8 * m + 16) /\ Stays (only x) w w' := by
 have kal := ralign_spec x s (by omega) a1 ha w hr
 rw [pad_at, <- hm] at kal
 have KS : Hid (∀ wx, (Rd wx x s (8 * m) /\ Stays (only x) w wx) -> Calls Tryz.prog 97 #[.pointer (some ⟨x, 0, none⟩), .string s, .int .i64 16, .func (.func 25) #[] #[]] wx fun en w' => en = .returned (.bool true) /\ Rd w' x s (8 * m + 16) /\ Stays (only x) w w') := fun wx hh => (f_sum16_yes x s hs m he hc wx hh.1 (hL.only hh.2 hx4) hx4).mono fun en w' q => ⟨q.1, q.2.1, hh.2.trans q.2.2 (fun _ _ h => h)⟩
 have hbe : ((bitsAt s a1 (padOf a1) : Int) == 0) = true := eQt (by omega)
 clear hp hr hL
 generalize bitsAt s a1 (padOf a1) = u at *
 go_enter Tryz.func47, Tryz.ntmps47
 go_wp2_with fail
 refine kal.mono ?_
 rintro en w1 ⟨rfl, h1, h2⟩
 have HR : Hid (Rd w1 x s (8 * m) /\ Stays (only x) w w1) := ⟨h1, h2⟩
 clear h1 h2 kal
 go_wp2_with fail
 refine (KS.out _ HR.out).mono ?_
 rintro en w2 ⟨rfl, hr2, hs2⟩
 have HS : Hid (Rd w2 x s (8 * m + 16) /\ Stays (only x) w w2) := ⟨hr2, hs2⟩
 clear hr2 hs2
 clear KS HR
 go_wp2_with fail
 go_ret
 exact ⟨rfl, HS.out⟩
abbrev F0 : Fm := ⟨false, 0, 0, 0, 0, 0, 0, []⟩
theorem info_Frame : (Tryz.prog.info? 24).map (·.size) = some 8 := by kernel_rfl
theorem Lay.drewN {w : World} (h : Lay w) (n : Nat) : Lay (w.drewN n) := h.below (below_drewN _ _)
structure GX (w : World) (h : Hd) (a b c d : Int) (i : Inf) (e : Int) (s : ByteArray) (q : Nat) (f : Fm) (wx : World) : Prop where
 hb : wx.heap[w.heap.size]? = some (.cells (hdC h) 78 (0, 0))
 ib : wx.heap[w.heap.size + 1]? = some (.cells (infC a b c d i e s) 26 (0, 0))
 zb : wx.heap[w.heap.size + 2]? = some (.cells (fmC F0 none 0) 24 (0, 0))
 fb : wx.heap[q]? = some (.cells (fmC f none 0) 24 (0, 0))
 below : Lo w wx
 hq : w.heap.size + 2 < q
theorem sizS_rng (c b : Int) (hc : 0 <= c /\ c < 16) (hb : 0 <= b /\ b <= 65535) : 0 <= sizS c b /\ sizS c b <= 70000 := by
 unfold sizS
 split
 ·omega
 ·obtain ⟨n, rfl⟩ : ∃ n : Nat, c = n := ⟨c.toNat, by omega⟩
  have hall : ∀ n : Nat, n < 16 -> 0 <= sizT.getD ((n : Int).toNat) 0 /\ sizT.getD ((n : Int).toNat) 0 <= 70000 := by decide
  exact hall n (by omega)
abbrev fmW (f : Fm) (v : Value) : Array Value := #[.bool f.v, .int .i64 f.num, .int .i64 f.size, .int .i64 f.sc, .int .i64 f.rc, .int .i64 f.wc, .int .i64 f.mo, v]
def Off (w : World) (vL vS : Value) (a : OA) (l : List Int) : Prop := 0 < l.length -> ∀ b, blockOf a = some b -> w.heap.size < b /\ vL.ownBlock ≠ some b /\ vS.ownBlock ≠ some b
structure RS (w : World) (x q : Nat) (s : ByteArray) (f : Fm) (a b c d : Int) (i : Inf) (e : Int) (sc : ByteArray) (L : List (List Int)) (S : List Sb) (vL vS vB : Value) (cX cY : List Value) (at_ : Nat) (wx : World) : Prop where
 rd : Rd wx x s at_
 fb : wx.heap[q]? = some (.cells (fmW f vB) 24 (0, 0))
 ib : wx.heap[w.heap.size]? = some (.cells (infC a b c d i e sc) 26 (0, 0))
 oX : wx.ownsRow (w.heap.size + 1) 56 1 vL L.length cX
 oY : wx.ownsRow (w.heap.size + 1) 67 10 vS S.length cY
 ne : ∀ g, vL.ownBlock = some g -> vS.ownBlock ≠ some g
 st : Stays (two x q) w wx
 hx : x < w.heap.size
 hq : q < w.heap.size
 xq : x ≠ q
 dX : ∀ n, n < L.length -> ∃ a k, cX[n]? = some (.slice a (L.getD n []).length k) /\ ((L.getD n []).length <= k /\ (a = none -> k = 0)) /\ IntsAt wx a (L.getD n []) /\ Off w vL vS a (L.getD n [])
 dY : ∀ n, n < S.length -> ∃ ca cc pa pc ea ec, (∀ j u, (subC (S.getD n Sb0) ca cc pa pc ea ec).toList[j]? = some u -> cY[n * 10 + j]? = some u) /\ SbAt wx (S.getD n Sb0) ca pa ea /\ ((S.getD n Sb0).C.length <= cc /\ (ca = none -> cc = 0)) /\ Off w vL vS ca (S.getD n Sb0).C /\ Off w vL vS pa (S.getD n Sb0).R.P /\ Off w vL vS ea (S.getD n Sb0).R.E
theorem own_keep {base e size n : Nat} {v : Value} {xs : List Value} {w w' : World} (h : w.ownsRow base e size v n xs) (hb : ∀ g, v.ownBlock = some g -> w'.heap[g]? = w.heap[g]?) : w'.ownsRow base e size v n xs := by
 refine ⟨h.1, ?_⟩
 rcases h.2 with ⟨h1, h2⟩ | ⟨g, cap, cur, h1, h2, h3, h4⟩
 ·exact .inl ⟨h1, h2⟩
 ·exact .inr ⟨g, cap, cur, h1, h2, by rw [hb g (by rw [h1]; rfl)]; exact h3, h4⟩
theorem ints_keep {w w' : World} {a : OA} {l : List Int} (h : IntsAt w a l) (hb : 0 < l.length -> ∀ b, blockOf a = some b -> b < w.heap.size -> w'.heap[b]? = w.heap[b]?) : IntsAt w' a l := by
 refine ⟨h.len, h.num, fun h0 => ?_⟩
 obtain ⟨b, off, e, hc⟩ := h.lies h0
 refine ⟨b, off, e, fun j hj => ?_⟩
 have h1 := hc j hj
 have h2 := lt_cell h1
 rw [<- h1]
 exact World.cell?_of_block (w := w) (hb h0 b (by rw [e]; rfl) h2)
theorem sb_keep {w w' : World} {z : Sb} {ca pa ea : OA} (h : SbAt w z ca pa ea) (hC : IntsAt w' ca z.C) (hP : IntsAt w' pa z.R.P) (hE : IntsAt w' ea z.R.E) : SbAt w' z ca pa ea := by
 obtain ⟨h1, h2, h3, h4, h5, h6, h7⟩ := h
 exact ⟨hC, { h2 with P := hP, E := hE }, h3, h4, h5, h6, h7⟩
section
variable {w wx w' : World} {x q : Nat} {s : ByteArray} {f : Fm} {a b c d : Int} {i : Inf} {e : Int} {sc : ByteArray} {L : List (List Int)} {S : List Sb} {vL vS vB : Value} {cX cY : List Value} {at_ at2 : Nat}
theorem RS.keep (h : RS w x q s f a b c d i e sc L S vL vS vB cX cY at_ wx) (hr : Rd w' x s at2) (hs : wx.heap.size <= w'.heap.size) (hst : Stays (two x q) w w') (hb : ∀ k, k < wx.heap.size -> k ≠ x -> w'.heap[k]? = wx.heap[k]?) : RS w x q s f a b c d i e sc L S vL vS vB cX cY at2 w' := by
 have hx := h.hx
 have off : ∀ {ao : OA} {l : List Int}, Off w vL vS ao l -> IntsAt wx ao l -> IntsAt w' ao l := fun {ao l} ho hi => ints_keep hi (fun h0 k hk hl => hb k hl (by have := (ho h0 k hk).1; omega))
 refine ⟨hr, by rw [hb _ (lt_of_block h.fb) (fun e => h.xq e.symm)]; exact h.fb, by rw [hb _ (lt_of_block h.ib) (by omega)]; exact h.ib, own_keep h.oX (fun g hg => ?_), own_keep h.oY (fun g hg => ?_), h.ne, hst, h.hx, h.hq, h.xq, fun n hn => ?_, fun n hn => ?_⟩
 ·have := h.oX.lt g hg; exact hb g this.2 (by omega)
 ·have := h.oY.lt g hg; exact hb g this.2 (by omega)
 ·obtain ⟨a, k, h1, h2, h3, h4⟩ := h.dX n hn
  exact ⟨a, k, h1, h2, off h4 h3, h4⟩
 ·obtain ⟨ca, cc, pa, pc, ea, ec, h1, h2, h3, h4, h5, h6⟩ := h.dY n hn
  exact ⟨ca, cc, pa, pc, ea, ec, h1, sb_keep h2 (off h4 h2.C) (off h5 h2.R.P) (off h6 h2.R.E), h3, h4, h5, h6⟩
theorem RS.low (h : RS w x q s f a b c d i e sc L S vL vS vB cX cY at_ wx) (hb : Lo wx w') : RS w x q s f a b c d i e sc L S vL vS vB cX cY at_ w' :=
 h.keep (by unfold Rd; rw [hb.block _ h.rd.lt]; exact h.rd) hb.size (h.st.trans (Stays.of_below hb (two x q)) (fun _ _ h => h)) (fun k hk _ => hb.block k hk)
theorem RS.only (h : RS w x q s f a b c d i e sc L S vL vS vB cX cY at_ wx) (hr : Rd w' x s at2) (hs : Stays (only x) wx w') : RS w x q s f a b c d i e sc L S vL vS vB cX cY at2 w' :=
 h.keep hr hs.size (h.st.trans hs (fun _ _ h => Or.inl h)) (fun k hk hne => hs.block k hk hne)
theorem RS.cells (h : RS w x q s f a b c d i e sc L S vL vS vB cX cY at_ wx) : wx.cell? ⟨q, 2, none⟩ = some (.int .i64 f.size) /\ wx.cell? ⟨q, 6, none⟩ = some (.int .i64 f.mo) /\ wx.cell? ⟨q, 7, none⟩ = some vB /\ wx.cell? ⟨w.heap.size, 6, none⟩ = some (.int .i64 i.wd) /\ wx.cell? ⟨w.heap.size, 5, none⟩ = some (.int .i64 i.ch) := by
 obtain ⟨i0, i1, i2, i3, i4, i5, i6, i7, i8⟩ := inf_cells h.ib
 refine ⟨?_, ?_, ?_, i6, i5⟩ <;> (rw [cell_of_row _ _ _ _ _ _ h.fb]; rfl)
theorem RS.pushX (h : RS w x q s f a b c d i e sc L S vL vS vB cX cY at_ wx) {g cap : Nat} {la : OA} {lc : Nat} {l : List Int} (ho : w'.ownsRow (w.heap.size + 1) 56 1 (.slice (some ⟨g, 0, none⟩) (L.length + 1) cap) (L.length + 1) (cX ++ [.slice la l.length lc])) (hg : wx.grownBy w' vL.ownBlock) (hat : vL.ownBlock = some g ∨ g = wx.heap.size) (hl : IntsAt wx la l) (hlc : l.length <= lc /\ (la = none -> lc = 0)) (hoff : Off w vL vS la l) :
  RS w x q s f a b c d i e sc (L ++ [l]) S (.slice (some ⟨g, 0, none⟩) (L.length + 1) cap) vS vB (cX ++ [.slice la l.length lc]) cY at_ w' := by
 have hx := h.hx
 have hq := h.hq
 have hib := lt_of_block h.ib
 have blk : ∀ k, k < wx.heap.size -> vL.ownBlock ≠ some k -> w'.heap[k]? = wx.heap[k]? := fun k hk hne => hg.block k hk (fun e => hne e.symm)
 have own : ∀ k, vL.ownBlock = some k -> w.heap.size + 1 <= k := fun k hk => (h.oX.lt k hk).1
 have low : ∀ k, k <= w.heap.size -> w'.heap[k]? = wx.heap[k]? := fun k hk => blk k (by omega) (fun e => by have := own k e; omega)
 have off : ∀ {ao : OA} {l : List Int}, Off w vL vS ao l -> IntsAt wx ao l -> IntsAt w' ao l := fun {ao l} hf hi => ints_keep hi (fun h0 k hk hl => blk k hl (hf h0 k hk).2.1)
 have offn : ∀ {ao : OA} {l : List Int}, Off w vL vS ao l -> IntsAt wx ao l -> Off w (.slice (some ⟨g, 0, none⟩) (L.length + 1) cap) vS ao l := fun {ao l} hf hi h0 b hb => by
  have hne : (Value.slice (some ⟨g, 0, none⟩) (L.length + 1) cap).ownBlock ≠ some b := fun e => by
   have e2 : g = b := by simpa [Value.ownBlock] using e
   rcases hat with h1 | h1
   ·exact (hf h0 b hb).2.1 (by rw [h1, e2])
   ·have := hi.blk h0 b hb; omega
  exact ⟨(hf h0 b hb).1, hne, (hf h0 b hb).2.2⟩
 have hst : Stays (two x q) w w' := h.st.trans (Stays.of_grown hg (S := fun k => vL.ownBlock = some k) (fun k hk => hk)) (fun k hk hkk => by have := own k hkk; omega)
 refine ⟨by unfold Rd; rw [low x (by omega)]; exact h.rd, by rw [low q (by omega)]; exact h.fb, by rw [low _ (Nat.le_refl _)]; exact h.ib, ?_, ?_, ?_, hst, hx, hq, h.xq, fun n hn => ?_, fun n hn => ?_⟩
 ·rw [show (L ++ [l]).length = L.length + 1 by rw [List.length_append]; rfl]; exact ho
 ·exact own_keep h.oY (fun k hk => blk k (h.oY.lt k hk).2 (fun e => h.ne k e hk))
 ·intro k hk e
  have e2 : g = k := by simpa [Value.ownBlock] using hk
  rcases hat with h1 | h1
  ·exact h.ne k (by rw [h1, e2]) e
  ·have := (h.oY.lt k e).2; omega
 ·have hlen : cX.length = L.length := by have := h.oX.1; omega
  by_cases hn2 : n < L.length
  ·obtain ⟨a, k, h1, h2, h3, h4⟩ := h.dX n hn2
   have e1 : (L ++ [l]).getD n [] = L.getD n [] := by rw [getD_snoc L l [] n L.length rfl, if_pos hn2]
   rw [e1];exact ⟨a, k, by rw [List.getElem?_append_left (by omega)]; exact h1, h2, off h4 h3, offn h4 h3⟩
  ·have en : n = L.length := by rw [List.length_append] at hn; have : n < L.length + 1 := hn; omega
   have e1 : (L ++ [l]).getD n [] = l := by rw [getD_snoc L l [] n L.length rfl, if_neg hn2, if_pos en]
   rw [e1];exact ⟨la, lc, by rw [List.getElem?_append_right (by omega), show n - cX.length = 0 by omega]; rfl, hlc, off hoff hl, offn hoff hl⟩
 ·obtain ⟨ca, cc, pa, pc, ea, ec, h1, h2, h3, h4, h5, h6⟩ := h.dY n hn
  exact ⟨ca, cc, pa, pc, ea, ec, h1, sb_keep h2 (off h4 h2.C) (off h5 h2.R.P) (off h6 h2.R.E), h3, offn h4 h2.C, offn h5 h2.R.P, offn h6 h2.R.E⟩
theorem RS.pushY (h : RS w x q s f a b c d i e sc L S vL vS vB cX cY at_ wx) {g cap : Nat} {z : Sb} {ca : OA} {cc : Nat} {pa : OA} {pc : Nat} {ea : OA} {ec : Nat} (ho : w'.ownsRow (w.heap.size + 1) 67 10 (.slice (some ⟨g, 0, none⟩) (S.length + 1) cap) (S.length + 1) (cY ++ (subC z ca cc pa pc ea ec).toList)) (hg : wx.grownBy w' vS.ownBlock) (hat : vS.ownBlock = some g ∨ g = wx.heap.size) (hl : SbAt wx z ca pa ea) (hlc : z.C.length <= cc /\ (ca = none -> cc = 0)) (hoC : Off w vL vS ca z.C) (hoP : Off w vL vS pa z.R.P) (hoE : Off w vL vS ea z.R.E) :
  RS w x q s f a b c d i e sc L (S ++ [z]) vL (.slice (some ⟨g, 0, none⟩) (S.length + 1) cap) vB cX (cY ++ (subC z ca cc pa pc ea ec).toList) at_ w' := by
 have hx := h.hx
 have hq := h.hq
 have hib := lt_of_block h.ib
 have blk : ∀ k, k < wx.heap.size -> vS.ownBlock ≠ some k -> w'.heap[k]? = wx.heap[k]? := fun k hk hne => hg.block k hk (fun e => hne e.symm)
 have own : ∀ k, vS.ownBlock = some k -> w.heap.size + 1 <= k := fun k hk => (h.oY.lt k hk).1
 have low : ∀ k, k <= w.heap.size -> w'.heap[k]? = wx.heap[k]? := fun k hk => blk k (by omega) (fun e => by have := own k e; omega)
 have off : ∀ {ao : OA} {l : List Int}, Off w vL vS ao l -> IntsAt wx ao l -> IntsAt w' ao l := fun {ao l} hf hi => ints_keep hi (fun h0 k hk hl => blk k hl (hf h0 k hk).2.2)
 have offn : ∀ {ao : OA} {l : List Int}, Off w vL vS ao l -> IntsAt wx ao l -> Off w vL (.slice (some ⟨g, 0, none⟩) (S.length + 1) cap) ao l := fun {ao l} hf hi h0 b hb => by
  have hne : (Value.slice (some ⟨g, 0, none⟩) (S.length + 1) cap).ownBlock ≠ some b := fun e => by
   have e2 : g = b := by simpa [Value.ownBlock] using e
   rcases hat with h1 | h1
   ·exact (hf h0 b hb).2.2 (by rw [h1, e2])
   ·have := hi.blk h0 b hb; omega
  exact ⟨(hf h0 b hb).1, (hf h0 b hb).2.1, hne⟩
 have hst : Stays (two x q) w w' := h.st.trans (Stays.of_grown hg (S := fun k => vS.ownBlock = some k) (fun k hk => hk)) (fun k hk hkk => by have := own k hkk; omega)
 refine ⟨by unfold Rd; rw [low x (by omega)]; exact h.rd, by rw [low q (by omega)]; exact h.fb, by rw [low _ (Nat.le_refl _)]; exact h.ib, ?_, ?_, ?_, hst, hx, hq, h.xq, fun n hn => ?_, fun n hn => ?_⟩
 ·exact own_keep h.oX (fun k hk => blk k (h.oX.lt k hk).2 (fun e => h.ne k hk e))
 ·rw [show (S ++ [z]).length = S.length + 1 by rw [List.length_append]; rfl]; exact ho
 ·intro k hk e
  have e2 : g = k := by simpa [Value.ownBlock] using e
  rcases hat with h1 | h1
  ·exact h.ne k hk (by rw [h1, e2])
  ·have := (h.oX.lt k hk).2; omega
 ·obtain ⟨a, k, h1, h2, h3, h4⟩ := h.dX n hn
  exact ⟨a, k, h1, h2, off h4 h3, offn h4 h3⟩
 ·have hlen : cY.length = S.length * 10 := h.oY.1
  by_cases hn2 : n < S.length
  ·obtain ⟨ca, cc, pa, pc, ea, ec, h1, h2, h3, h4, h5, h6⟩ := h.dY n hn2
   have e1 : (S ++ [z]).getD n Sb0 = S.getD n Sb0 := by rw [getD_snoc S z Sb0 n S.length rfl, if_pos hn2]
   rw [e1];refine ⟨ca, cc, pa, pc, ea, ec, fun j u hu => ?_, sb_keep h2 (off h4 h2.C) (off h5 h2.R.P) (off h6 h2.R.E), h3, offn h4 h2.C, offn h5 h2.R.P, offn h6 h2.R.E⟩;have h7 := h1 j u hu
   have hl : n * 10 + j < cY.length := by
    rcases Nat.lt_or_ge (n * 10 + j) cY.length with hl | hl
    ·exact hl
    ·rw [List.getElem?_eq_none hl] at h7; cases h7
   rw [List.getElem?_append_left hl]; exact h7
  ·have en : n = S.length := by rw [List.length_append] at hn; have : n < S.length + 1 := hn; omega
   have e1 : (S ++ [z]).getD n Sb0 = z := by rw [getD_snoc S z Sb0 n S.length rfl, if_neg hn2, if_pos en]
   rw [e1];refine ⟨ca, cc, pa, pc, ea, ec, fun j u hu => ?_, sb_keep hl (off hoC hl.C) (off hoP hl.R.P) (off hoE hl.R.E), hlc, offn hoC hl.C, offn hoP hl.R.P, offn hoE hl.R.E⟩;rw [List.getElem?_append_right (by omega), show n * 10 + j - cY.length = j by omega]; exact hu
theorem RS.store (h : RS w x q s f a b c d i e sc L S vL vS vB cX cY at_ wx) : RS w x q s f a b c d i e sc L S vL vS vS cX cY at_ (wx.setCell ⟨q, 7, none⟩ vS) := by
 have hx := h.hx
 have hq := h.hq
 have blk : ∀ k, k ≠ q -> (wx.setCell ⟨q, 7, none⟩ vS).heap[k]? = wx.heap[k]? := fun k hk => Below.heap_setCell _ _ _ _ hk
 have off : ∀ {ao : OA} {l : List Int}, Off w vL vS ao l -> IntsAt wx ao l -> IntsAt (wx.setCell ⟨q, 7, none⟩ vS) ao l := fun {ao l} ho hi => ints_keep hi (fun h0 k hk hl => blk k (by have := (ho h0 k hk).1; omega))
 refine ⟨h.rd.other _ _ (fun e => h.xq e.symm), by rw [block_setCell _ _ _ _ _ _ h.fb]; rfl, by rw [blk _ (by omega)]; exact h.ib, own_keep h.oX (fun g hg => blk g (by have := h.oX.lt g hg; omega)), own_keep h.oY (fun g hg => blk g (by have := h.oY.lt g hg; omega)), h.ne, h.st.setCell _ _ (.inl (.inr rfl)), h.hx, h.hq, h.xq, fun n hn => ?_, fun n hn => ?_⟩
 ·obtain ⟨a, k, h1, h2, h3, h4⟩ := h.dX n hn
  exact ⟨a, k, h1, h2, off h4 h3, h4⟩
 ·obtain ⟨ca, cc, pa, pc, ea, ec, h1, h2, h3, h4, h5, h6⟩ := h.dY n hn
  exact ⟨ca, cc, pa, pc, ea, ec, h1, sb_keep h2 (off h4 h2.C) (off h5 h2.R.P) (off h6 h2.R.E), h3, h4, h5, h6⟩
theorem RS.subs (h : RS w x q s f a b c d i e sc L S vL vS vB cX cY at_ wx) (hl : S.length <= 8) : ∃ so sk, vS = .slice so S.length sk /\ SubsAt wx so S /\ (S.length <= sk /\ (so = none -> sk = 0)) := by
 have ho := h.oY
 rcases ho.2 with ⟨h1, h2⟩ | ⟨g, cap, cur, h1, h2, h3, h4, h5, h6, h7⟩
 ·exact ⟨none, 0, by rw [h1, h2], ⟨by omega, fun h0 => by omega⟩, by omega, fun _ => rfl⟩
 ·refine ⟨_, cap, h1, ⟨by omega, fun h0 => ⟨g, 0, rfl, fun n hn => ?_⟩⟩, h4, fun e => by cases e⟩
  obtain ⟨ca, cc, pa, pc, ea, ec, k1, k2, k3, _⟩ := h.dY n hn;refine ⟨ca, cc, pa, pc, ea, ec, ?_, k2, k3⟩
  have cel : ∀ j u, (subC (S.getD n Sb0) ca cc pa pc ea ec).toList[j]? = some u -> wx.cell? ⟨g, 0 + n * 10 + j, none⟩ = some u := fun j u hu => by
   have k := k1 j u hu;rw [<- h7, List.getElem?_take] at k
   split at k
   ·rw [Nat.zero_add, cell_of_row _ _ _ _ _ _ h3, <- Array.getElem?_toList]; exact k
   ·cases k
  exact ⟨cel 0 _ rfl, cel 1 _ rfl, cel 2 _ rfl, cel 3 _ rfl, cel 4 _ rfl, cel 5 _ rfl, cel 6 _ rfl, cel 7 _ rfl, cel 8 _ rfl, cel 9 _ rfl⟩
end
theorem subsP_eq (s : ByteArray) (a : Nat) (i : Inf) (mo size : Int) (n : Nat) : subsP s a i mo size (n + 1) = (match subsP s a i mo size n with
  | none => none
  | some (L, S, a1) => match decS s a1 size (wdA i mo n) with
   | none => none
   | some (l, q, a2) => some (L ++ [l], S ++ [q], a2)) := rfl
theorem subsP_next {s : ByteArray} {a : Nat} {i : Inf} {mo size : Int} {n : Nat} {L : List (List Int)} {S : List Sb} {a1 : Nat} (h : subsP s a i mo size n = some (L, S, a1)) {l : List Int} {z : Sb} {a2 : Nat} (hd : decS s a1 size (wdA i mo n) = some (l, z, a2)) : subsP s a i mo size (n + 1) = some (L ++ [l], S ++ [z], a2) := by
 rw [subsP_eq, h]
 simp only [hd]
theorem rows_info : ∃ i, Tryz.prog.info? 56 = some i /\ i.zero = some (.slice none 0 0) /\ i.size = 1 /\ i.bytes = 24 := by
 have h : (Tryz.prog.info? 56).map (fun i => (i.zero, i.size, i.bytes)) = some (some (.slice none 0 0), 1, 24) := by kernel_rfl
 cases hq : Tryz.prog.info? 56 with
 | none => rw [hq] at h; cases h
 | some i =>
  rw [hq] at h;simp only [Option.map_some, Option.some.injEq, Prod.mk.injEq] at h;exact ⟨i, rfl, h.1, h.2.1, h.2.2⟩
theorem subs_info : ∃ i, Tryz.prog.info? 67 = some i /\ i.zero = some (.agg (subC S0 none 0 none 0 none 0)) /\ i.size = 10 /\ i.bytes = 128 := by
 have h : (Tryz.prog.info? 67).map (fun i => (i.zero, i.size, i.bytes)) = some (some (.agg (subC S0 none 0 none 0 none 0)), 10, 128) := by kernel_rfl
 cases hq : Tryz.prog.info? 67 with
 | none => rw [hq] at h; cases h
 | some i =>
  rw [hq] at h;simp only [Option.map_some, Option.some.injEq, Prod.mk.injEq] at h;exact ⟨i, rfl, h.1, h.2.1, h.2.2⟩
theorem undRows : Tryz.prog.underlying 27 = some (.slice 56) := by kernel_rfl
theorem undSubs : Tryz.prog.underlying 22 = some (.slice 67) := by kernel_rfl
theorem one_slice (a : OA) (n c : Nat) : ∀ u ∈ [Value.slice a n c], u.oneCell' = true := by intro u hu; simp at hu; subst hu; rfl
theorem one_sub (z : Sb) (ca : OA) (cc : Nat) (pa : OA) (pc : Nat) (ea : OA) (ec : Nat) : ∀ u ∈ (subC z ca cc pa pc ea ec).toList, u.oneCell' = true := by
 intro u hu
 simp only [subC, List.mem_cons, List.not_mem_nil, or_false] at hu
 rcases hu with rfl | rfl | rfl | rfl | rfl | rfl | rfl | rfl | rfl | rfl <;> rfl
theorem Off.moved {w wx : World} {vL vS : Value} {a : OA} {l : List Int} {g m cap : Nat} (h : Off w vL vS a l) (hi : IntsAt wx a l) (hat : vL.ownBlock = some g ∨ g = wx.heap.size) : Off w (.slice (some ⟨g, 0, none⟩) m cap) vS a l := fun h0 b hb => ⟨(h h0 b hb).1, fun e => by
  have e2 : g = b := by simpa [Value.ownBlock] using e
  rcases hat with h1 | h1
  ·exact (h h0 b hb).2.1 (by rw [h1, e2])
  ·have := hi.blk h0 b hb; omega, (h h0 b hb).2.2⟩
structure DN (w : World) (vL vS : Value) (l : List Int) (la : OA) (lc : Nat) (z : Sb) (ca : OA) (cc : Nat) (pa ea : OA) (wx : World) : Prop where
 li : IntsAt wx la l
 ll : l.length <= lc /\ (la = none -> lc = 0)
 lf : Off w vL vS la l
 zi : SbAt wx z ca pa ea
 zl : z.C.length <= cc /\ (ca = none -> cc = 0)
 cf : Off w vL vS ca z.C
 pf : Off w vL vS pa z.R.P
 ef : Off w vL vS ea z.R.E
section
variable {w wx w' : World} {vL vS : Value} {l : List Int} {la : OA} {lc : Nat} {z : Sb} {ca : OA} {cc : Nat} {pa ea : OA}
theorem DN.low (h : DN w vL vS l la lc z ca cc pa ea wx) (hb : Lo wx w') : DN w vL vS l la lc z ca cc pa ea w' := ⟨h.li.below hb, h.ll, h.lf, h.zi.below hb, h.zl, h.cf, h.pf, h.ef⟩
theorem DN.grown {g m cap : Nat} (h : DN w vL vS l la lc z ca cc pa ea wx) (hg : wx.grownBy w' vL.ownBlock) (hat : vL.ownBlock = some g ∨ g = wx.heap.size) : DN w (.slice (some ⟨g, 0, none⟩) m cap) vS l la lc z ca cc pa ea w' := by
 have blk : ∀ k, k < wx.heap.size -> vL.ownBlock ≠ some k -> w'.heap[k]? = wx.heap[k]? := fun k hk hne => hg.block k hk (fun e => hne e.symm)
 have off : ∀ {ao : OA} {l : List Int}, Off w vL vS ao l -> IntsAt wx ao l -> IntsAt w' ao l := fun {ao l} hf hi => ints_keep hi (fun h0 k hk hl => blk k hl (hf h0 k hk).2.1)
 exact ⟨off h.lf h.li, h.ll, h.lf.moved h.li hat, sb_keep h.zi (off h.cf h.zi.C) (off h.pf h.zi.R.P) (off h.ef h.zi.R.E), h.zl, h.cf.moved h.zi.C hat, h.pf.moved h.zi.R.P hat, h.ef.moved h.zi.R.E hat⟩
end
theorem rs_set10 {w wr w5 W : World} {x q : Nat} {s : ByteArray} {f : Fm} {a b c d : Int} {i : Inf} {e : Int} {sc : ByteArray} {L : List (List Int)} {S : List Sb} {vL vS : Value} {cX cY : List Value} {an a2 : Nat} {l : List Int} {la : OA} {lc : Nat} {z : Sb} {ca : OA} {cc : Nat} {pa ea : OA}
  (h0 : RS w x q s f a b c d i e sc L S vL vS vS cX cY an wr) (hst : Stays (only wr.heap.size) w5 W) (h5 : RS w x q s f a b c d i e sc L S vL vS vS cX cY a2 w5) (hd : DN w vL vS l la lc z ca cc pa ea w5) (hb : ∀ j, j < wr.heap.size -> j ≠ x -> w5.heap[j]? = wr.heap[j]?) (hf : Fr (wr.heap.size + 1) la /\ Fr (wr.heap.size + 1) ca /\ Fr (wr.heap.size + 1) pa /\ Fr (wr.heap.size + 1) ea) (hsz : wr.heap.size <= w5.heap.size) :
  RS w x q s f a b c d i e sc L S vL vS vS cX cY a2 W /\ DN w vL vS l la lc z ca cc pa ea W := by
 have hx := h0.hx
 have hib := lt_of_block h0.ib
 have blk : ∀ j, j < w5.heap.size -> j ≠ wr.heap.size -> W.heap[j]? = w5.heap[j]? := fun j hj hne => hst.block j hj hne
 have hrd : Rd W x s a2 := by have h := h5.rd; unfold Rd at h ⊢; rw [blk x h5.rd.lt (by omega)]; exact h
 have hstw : Stays (two x q) w W := h5.st.trans hst (fun j hj hjk => by have e2 : j = wr.heap.size := hjk; omega)
 have keep : ∀ {ao : OA} {l : List Int}, Fr (wr.heap.size + 1) ao -> IntsAt w5 ao l -> IntsAt W ao l := fun {ao l} hf hi => ints_keep hi (fun h0 k hk hl => blk k hl (by have := hf k hk; omega))
 refine ⟨h0.keep hrd (by have := hst.size; omega) hstw (fun j hj hne => by rw [blk j (by omega) (by omega)]; exact hb j hj hne), ?_⟩
 exact ⟨keep hf.1 hd.li, hd.ll, hd.lf, sb_keep hd.zi (keep hf.2.1 hd.zi.C) (keep hf.2.2.1 hd.zi.R.P) (keep hf.2.2.2 hd.zi.R.E), hd.zl, hd.cf, hd.pf, hd.ef⟩
theorem tmpn_old (w : World) (a b : Obj) : ((w.alloc a).alloc b).heap[w.heap.size]? = some a := by
 rw [Below.heap_alloc _ _ _ (by simp)]; exact heap_alloc_new _ _
theorem tmpn_next (w : World) (a b : Obj) : ((w.alloc a).alloc b).heap[w.heap.size + 1]? = some b := by
 have h := heap_alloc_new (w.alloc a) b
 rw [show (w.alloc a).heap.size = w.heap.size + 1 from by simp] at h
 exact h
section
variable {P : Program} {ops : Array Oper} {Q : Exit -> Act -> World -> Prop} {md : Region.Mode} {S : World -> Prop} {n : Nat}
def Till (P : Program) (md : Region.Mode) (ops : Array Oper) (Q : Exit -> Act -> World -> Prop) (S : World -> Prop) (n : Nat) : Nat -> Array Bool -> Act -> World -> Prop
 | 0, listed, a, w => Region.ready md ops listed = [] /\ Q .normal a w
 | fuel + 1, listed, a, w => (Region.ready md ops listed = [] -> Q .normal a w) /\ ∀ i, i ∈ Region.ready md ops listed -> wpOp P ops Q i (fun a' w' => ((listed.setIfInBounds i true).getD n true = false -> S w') /\ Till P md ops Q S n fuel (listed.setIfInBounds i true) a' w') a w
theorem Till.any (fuel : Nat) (listed : Array Bool) (a : Act) (w : World) (h : Till P md ops Q S n fuel listed a w) : wpAny P md ops Q fuel listed a w := by
 induction fuel generalizing listed a w with
 | zero => exact h
 | succ f ih => exact ⟨h.1, fun i hi => wpOp_mono (fun a' w' hh => ih _ a' w' hh.2) (h.2 i hi)⟩
def Waits (md : Region.Mode) (ops : Array Oper) (n i : Nat) : Prop := ∀ on, ops[n]? = some on -> ∃ e, e ∈ on.after /\ Region.binds md e = true /\ e.on = i
theorem Waits.of {i : Nat} (h : ((ops[n]?).all fun on => on.after.any fun e => Region.binds md e && (e.on == i)) = true) : Waits md ops n i := fun on ho => by
 rw [ho] at h
 simp only [Option.all_some, Array.any_eq_true, Bool.and_eq_true_iff, beq_iff_eq] at h
 obtain ⟨j, hj, h1, h2⟩ := h
 exact ⟨_, Array.getElem_mem hj, h1, h2⟩
theorem Till.first {i : Nat} {oi : Oper} {v : Value} (hi : ops[i]? = some oi) (hsel : ∀ (j : Nat) (o : Oper) cs b, ops[j]? = some o -> o.op ≠ .select cs b)
  (hQ : ∀ c a w, Q (.panic c) (a.put oi.dst v) w -> Q (.panic c) a w) (hni : n ≠ i) (hwt : Waits md ops n i) (fuel : Nat) :
  ∀ (listed : Array Bool) (a : Act) (w : World), (∀ j oj, ops[j]? = some oj -> j ≠ i -> listed.getD j true = false -> (∀ e ∈ oj.after, Region.binds md e = true -> e.on ≠ i) -> oi.apart ops oj = true) ->
   listed.getD n true = false -> i ∈ Region.ready md ops listed -> YieldsIf P ops S oi v a -> S w -> Till P md ops Q S n fuel (listed.setIfInBounds i true) (a.put oi.dst v) w -> Till P md ops Q S n (fuel + 1) listed a w := by
 induction fuel with
 | zero =>
  intro listed a w _ hn hr hy hS H;refine ⟨fun h => (by rw [h] at hr; cases hr), fun j hj => ?_⟩
  by_cases hji : j = i
  ·subst hji; exact hy.wpOp hi hS ⟨fun _ => hS, H⟩
  ·have := ready_mono hj hji
   rw [H.1] at this;cases this
 | succ f ih =>
  intro listed a w hfree hn hr hy hS H;refine ⟨fun h => (by rw [h] at hr; cases hr), fun j hj => ?_⟩
  by_cases hji : j = i
  ·subst hji; exact hy.wpOp hi hS ⟨fun _ => hS, H⟩
  obtain ⟨hun, oj, hoj, hall⟩ := mem_ready.1 hj
  have hnot : ∀ e ∈ oj.after, Region.binds md e = true -> e.on ≠ i := fun e he hb heq => by
   have h1 := hall e he hb;have h0 := (mem_ready.1 hr).1;rw [heq] at h1
   rcases Nat.lt_or_ge i listed.size with h' | h'
   ·simp [h'] at h0 h1; rw [h0] at h1; cases h1
   ·simp [Array.getElem?_eq_none h'] at h1
  have hjn : j ≠ n := fun e => by
   subst e;obtain ⟨e, he, hb, heq⟩ := hwt oj hoj;exact hnot e he hb heq
  have hn2 : (listed.setIfInBounds j true).getD n true = false := by rw [getD_set_ne true hjn]; exact hn
  have hn3 : ((listed.setIfInBounds i true).setIfInBounds j true).getD n true = false := by rw [getD_set_ne true hjn, getD_set_ne true (Ne.symm hni)]; exact hn
  have h2 := wpOp_putIf hoj (hfree j oj hoj hji hun hnot) (fun cs b => hsel i oi cs b hi) (fun cs b => hsel j oj cs b hoj) hQ hy (H.2 j (ready_mono hj hji));refine wpOp_mono (fun a' w' h3 => ?_) h2;have hS' := h3.2.1 hn3;refine ⟨fun _ => hS', ih (listed.setIfInBounds j true) a' w' (fun k ok hk hki hku hno => hfree k ok hk hki ?_ hno) hn2 (ready_mono hr (Ne.symm hji)) h3.1 hS' ?_⟩
  ·by_cases hjk : j = k
   ·subst hjk; exact hun
   ·rwa [getD_set_ne true hjk] at hku
  ·rw [Array.setIfInBounds_comm _ _ hji]
   exact h3.2.2
theorem Till.take {i : Nat} {oi : Oper} {v : Value} {fuel : Nat} {listed : Array Bool} {a : Act} {w : World} (hi : ops[i]? = some oi) (hs : Region.noSelect ops = true) (hf : Region.free md ops listed i = true) (hr : (Region.ready md ops listed).contains i = true)
  (hQ : ∀ c a w, Q (.panic c) (a.put oi.dst v) w -> Q (.panic c) a w) (hni : n ≠ i) (hwt : Waits md ops n i) (hn : listed.getD n true = false) (hy : YieldsIf P ops S oi v a) (hS : S w)
  (h : Till P md ops Q S n fuel (listed.setIfInBounds i true) (a.put oi.dst v) w) : Till P md ops Q S n (fuel + 1) listed a w :=
 Till.first hi (Region.noSelect_spec hs) hQ hni hwt fuel listed a w (Region.free_spec hi hf) hn (by simpa using hr) hy hS h
theorem Till.firstP {i : Nat} {oi : Oper} {v : Value} (hi : ops[i]? = some oi) (hsel : ∀ (j : Nat) (o : Oper) cs b, ops[j]? = some o -> o.op ≠ .select cs b)
  (hQ : ∀ c a w, Q (.panic c) (a.put oi.dst v) w -> Q (.panic c) a w) (hni : n ≠ i) (fuel : Nat) :
  ∀ (listed : Array Bool) (a : Act) (w : World), (∀ j oj, ops[j]? = some oj -> j ≠ i -> listed.getD j true = false -> (∀ e ∈ oj.after, Region.binds md e = true -> e.on ≠ i) -> oi.apart ops oj = true) ->
   i ∈ Region.ready md ops listed -> YieldsIf P ops (fun _ => True) oi v a -> (listed.getD n true = false -> S w) -> Till P md ops Q S n fuel (listed.setIfInBounds i true) (a.put oi.dst v) w -> Till P md ops Q S n (fuel + 1) listed a w := by
 induction fuel with
 | zero =>
  intro listed a w _ hr hy hS H;refine ⟨fun h => (by rw [h] at hr; cases hr), fun j hj => ?_⟩
  by_cases hji : j = i
  ·subst hji; exact hy.wpOp hi trivial ⟨fun h => hS (by rwa [getD_set_ne true (Ne.symm hni)] at h), H⟩
  ·have := ready_mono hj hji
   rw [H.1] at this;cases this
 | succ f ih =>
  intro listed a w hfree hr hy hS H;refine ⟨fun h => (by rw [h] at hr; cases hr), fun j hj => ?_⟩
  by_cases hji : j = i
  ·subst hji; exact hy.wpOp hi trivial ⟨fun h => hS (by rwa [getD_set_ne true (Ne.symm hni)] at h), H⟩
  obtain ⟨hun, oj, hoj, hall⟩ := mem_ready.1 hj
  have hnot : ∀ e ∈ oj.after, Region.binds md e = true -> e.on ≠ i := fun e he hb heq => by
   have h1 := hall e he hb;have h0 := (mem_ready.1 hr).1;rw [heq] at h1
   rcases Nat.lt_or_ge i listed.size with h' | h'
   ·simp [h'] at h0 h1; rw [h0] at h1; cases h1
   ·simp [Array.getElem?_eq_none h'] at h1
  have h2 := wpOp_putIf hoj (hfree j oj hoj hji hun hnot) (fun cs b => hsel i oi cs b hi) (fun cs b => hsel j oj cs b hoj) hQ hy (H.2 j (ready_mono hj hji));refine wpOp_mono (fun a' w' h3 => ?_) h2
  have hS' : (listed.setIfInBounds j true).getD n true = false -> S w' := fun h => h3.2.1 (by
   rw [Array.setIfInBounds_comm _ _ (Ne.symm hji), getD_set_ne true (Ne.symm hni)]; exact h)
  refine ⟨hS', ih (listed.setIfInBounds j true) a' w' (fun k ok hk hki hku hno => hfree k ok hk hki ?_ hno) (ready_mono hr (Ne.symm hji)) h3.1 hS' ?_⟩
  ·by_cases hjk : j = k
   ·subst hjk; exact hun
   ·rwa [getD_set_ne true hjk] at hku
  ·rw [Array.setIfInBounds_comm _ _ hji]
   exact h3.2.2
theorem Till.takeP {i : Nat} {oi : Oper} {v : Value} {fuel : Nat} {listed : Array Bool} {a : Act} {w : World} (hi : ops[i]? = some oi) (hs : Region.noSelect ops = true) (hf : Region.free md ops listed i = true) (hr : (Region.ready md ops listed).contains i = true)
  (hQ : ∀ c a w, Q (.panic c) (a.put oi.dst v) w -> Q (.panic c) a w) (hni : n ≠ i) (hy : YieldsIf P ops (fun _ => True) oi v a) (hS : S w)
  (h : Till P md ops Q S n fuel (listed.setIfInBounds i true) (a.put oi.dst v) w) : Till P md ops Q S n (fuel + 1) listed a w :=
 Till.firstP hi (Region.noSelect_spec hs) hQ hni fuel listed a w (Region.free_spec hi hf) (by simpa using hr) hy (fun _ => hS) h
def Ups (P : Program) (md : Region.Mode) (ops : Array Oper) (Q : Exit -> Act -> World -> Prop) (S : World -> Prop) (n fuel : Nat) (listed : Array Bool) (a : Act) (w : World) (rs : List Nat) : Prop :=
 ∀ i, i ∈ rs -> wpOp P ops Q i (fun a' w' => ((listed.setIfInBounds i true).getD n true = false -> S w') /\ Till P md ops Q S n fuel (listed.setIfInBounds i true) a' w') a w
theorem Ups.nil {fuel : Nat} {listed : Array Bool} {a : Act} {w : World} : Ups P md ops Q S n fuel listed a w [] := fun _ h => by cases h
theorem Ups.cons {fuel : Nat} {listed : Array Bool} {a : Act} {w : World} {i : Nat} {o : Oper} {rs : List Nat} (ho : ops[i]? = some o)
  (h : ∀ K' : Act -> World -> Prop, Shut (∀ a w, ((listed.setIfInBounds i true).getD n true = false -> S w) -> Till P md ops Q S n fuel (listed.setIfInBounds i true) a w -> K' a w) -> if Region.wanted o (yielded ops a.tmps) = true then Oper.wp P o a w K' Q else K' (a.put o.dst undef) w)
  (hs : Ups P md ops Q S n fuel listed a w rs) : Ups P md ops Q S n fuel listed a w (i :: rs) := fun j hj => by
 rcases List.mem_cons.1 hj with rfl | hj
 ·exact wpOp_step ho (fun K' hK => h K' (fun a w hS hW => hK a w ⟨hS, hW⟩))
 ·exact hs j hj
theorem Till.ready {rs : List Nat} {fuel : Nat} {listed : Array Bool} {a : Act} {w : World} (hr : Region.ready md ops listed = rs) (hne : rs ≠ []) (h : Ups P md ops Q S n fuel listed a w rs) : Till P md ops Q S n (fuel + 1) listed a w :=
 ⟨fun h0 => absurd (hr ▸ h0) hne, hr ▸ h⟩
theorem Till.done {fuel : Nat} {listed : Array Bool} {a : Act} {w : World} (hr : Region.ready md ops listed = []) (h : Q .normal a w) : Till P md ops Q S n fuel listed a w := by
 cases fuel with
 | zero => exact ⟨hr, h⟩
 | succ f => exact ⟨fun _ => h, fun i hi => by rw [hr] at hi; cases hi⟩
theorem Till.begin {id : Nat} {a : Act} {w : World} (hm : P.follows .mixedOrders = true) (hS : S w.drew) (h : S w.drew -> Till P .any ops Q S n ops.size (Array.replicate ops.size false) a w.drew) : (Code.region id ops true).wp P Q a w :=
 wp_region_any hm (Till.any _ _ _ _ (h hS))
end
end Go.Proofs.YtfpfabmbipmipaaGreatDoor

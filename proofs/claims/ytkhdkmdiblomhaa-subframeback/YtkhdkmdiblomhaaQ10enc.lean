/- Own text: the program's Encode. -/
import Derived.Test.YtkhdkmdiblomhaaQ10body
import Derived.Test.YtkhdkmdiblomhaaQ10pour
import Derived.Test.YtkhdkmdiblomhaaG18x
namespace Go.Proofs.Ytkhdkmdiblomhaa
open Go.RowKit
set_option linter.unusedSimpArgs false
set_option linter.unusedVariables false

/-- A walk that writes into a draft of its own, behind a recipe's box. -/
structure DR (w : World) (q : Sb) (ca : Option Addr) (cc : Nat) (pa : Option Addr) (pc : Nat) (ea : Option Addr) (ec : Nat) (d : Nat) (ad : Option Addr) (D : List Nat) (wx : World) : Prop where
  box : wx.heap[w.heap.size]? = some (.cells (subC q ca cc pa pc ea ec) 26 (0, 0))
  wr : WrB wx d ad D
  low : Below w.heap.size w wx
  hd : w.heap.size < d
  nd : ∀ b, blockOf ad = some b → w.heap.size < b
section
variable {w wx w' : World} {q : Sb} {ca : Option Addr} {cc : Nat} {pa : Option Addr} {pc : Nat} {ea : Option Addr} {ec : Nat} {d : Nat} {ad ad' : Option Addr} {D D' : List Nat}
theorem DR.put (h : DR w q ca cc pa pc ea ec d ad D wx) (hs : Stays (foot d ad) wx w') (hv : Moved wx.heap.size ad ad') (hw : WrB w' d ad' D') : DR w q ca cc pa pc ea ec d ad' D' w' := by
  have hlt := lt_of_block h.box
  have hn : ∀ i, i ≤ w.heap.size → ¬ foot d ad i := fun i hi hf => by
    rcases hf with hf | hf
    · have := h.hd; omega
    · have := h.nd i hf; omega
  refine ⟨by rw [hs.block _ hlt (hn _ (Nat.le_refl _))]; exact h.box, hw, h.low.trans (hs.below (Nat.le_of_lt hlt) (fun i hi => hn i (by omega))), h.hd, fun b hb => ?_⟩
  rcases hv b hb with h1 | h1
  · exact h.nd b h1
  · omega
theorem DR.stay (h : DR w q ca cc pa pc ea ec d ad D wx) (hs : Stays (foot d ad) wx w') : Below w.heap.size w w' := by
  have hlt := lt_of_block h.box
  exact h.low.trans (hs.below (Nat.le_of_lt hlt) (fun i hi hf => by
    rcases hf with hf | hf
    · have := h.hd; omega
    · have := h.nd i hf; omega))
theorem DR.boxstay (h : DR w q ca cc pa pc ea ec d ad D wx) (hs : Stays (foot d ad) wx w') : w'.heap[w.heap.size]? = some (.cells (subC q ca cc pa pc ea ec) 26 (0, 0)) := by
  rw [hs.block _ (lt_of_block h.box) (fun hf => by
    rcases hf with hf | hf
    · have := h.hd; omega
    · have := h.nd _ hf; omega)]
  exact h.box
theorem DR.next (h : DR w q ca cc pa pc ea ec d ad D wx) (hb : Below wx.heap.size wx w') : DR w q ca cc pa pc ea ec d ad D w' :=
  ⟨by rw [hb.block _ (lt_of_block h.box)]; exact h.box, h.wr.below hb, h.low.trans (hb.mono h.low.size), h.hd, h.nd⟩
theorem DR.apart (h : DR w q ca cc pa pc ea ec d ad D wx) {xo : Option Addr} {l : List Int} (hx : IntsAt w xo l) : Apart d ad xo l := fun h0 b hb hf => by
  obtain ⟨bb, off, rfl, hc⟩ := hx.lies h0
  have e : bb = b := by simpa [blockOf] using hb
  have h2 : bb < w.heap.size := lt_cell (hc 0 h0)
  rcases hf with hf | hf
  · have := h.hd; omega
  · have := h.nd b hf; omega
end
theorem DR.start {w wx : World} {q : Sb} {ca : Option Addr} {cc : Nat} {pa : Option Addr} {pc : Nat} {ea : Option Addr} {ec : Nat} (h : SX w q ca cc pa pc ea ec wx) (o : Obj) (hw : WrB (wx.alloc o) wx.heap.size none []) : DR w q ca cc pa pc ea ec wx.heap.size none [] (wx.alloc o) := by
  have hb : Below wx.heap.size wx (wx.alloc o) := (Below.refl _ _).alloc (Nat.le_refl _) _
  have h2 := h.next hb
  exact ⟨h2.box, hw, h2.below, lt_of_block h.box, fun b hb => by cases hb⟩
set_option maxRecDepth 20000 in
set_option maxHeartbeats 3200000 in
theorem enc_chk (q : Sb) (v : Int) (l : List Int) (ca : Option Addr) (cc : Nat) (pa : Option Addr) (pc : Nat) (ea : Option Addr) (ec : Nat) (lo : Option Addr) (cap p : Nat) (w : World) (hq : SbAt w q ca pa ea) (hl : IntsAt w lo l) (hno : ¬ subOk q l.length v) : Calls Try.prog 9 #[.pointer (some ⟨p, 0, none⟩), subV q ca cc pa pc ea ec, .int .i64 v, .slice lo l.length cap] w fun e w' => e = .returned (.int .i64 60) ∧ Below w.heap.size w w' := by
  have hll := hl.len
  have KC : Hid (∀ wx a, a = subV q ca cc pa pc ea ec → Below w.heap.size w wx → Calls Try.prog 19 #[a, .int .i64 (l.length : Int), .int .i64 v] wx fun e w' => e = .returned (.int .i64 60) ∧ Below wx.heap.size wx w') := fun wx a ha hb => by rw [ha]; exact s_check q ca cc pa pc ea ec l.length v 60 (fun h => absurd h hno) (fun _ => rfl) wx (hq.below hb)
  clear hq hl hno
  have HA : Hid (SX w q ca cc pa pc ea ec (w.alloc (.cells (subC q ca cc pa pc ea ec) 26))) := SX.new w q ca cc pa pc ea ec
  go_enter Try.func9, Try.ntmps9
  go_upto_region 1 with fail
  generalize hwa : World.alloc _ _ = wa at *
  clear hwa
  obtain ⟨x0, x1, x2, x3, x4, x5, x6, x7, x8, x9⟩ := sub_cells HA.out.box
  go_wp2_with fail
  refine (KC.out _ _ (by simp []) HA.out.below).mono ?_
  rintro e wx_HA0 ⟨rfl, hb⟩
  have HA0 : Hid (SX w q ca cc pa pc ea ec wx_HA0) := HA.out.next hb
  clear hb HA x0 x1 x2 x3 x4 x5 x6 x7 x8 x9
  obtain ⟨x0, x1, x2, x3, x4, x5, x6, x7, x8, x9⟩ := sub_cells HA0.out.box
  go_wp2_with fail
  go_ret
  exact ⟨rfl, HA0.out.below⟩
set_option maxRecDepth 20000 in
set_option maxHeartbeats 3200000 in
theorem enc_fit (q : Sb) (v : Int) (l : List Int) (ca : Option Addr) (cc : Nat) (pa : Option Addr) (pc : Nat) (ea : Option Addr) (ec : Nat) (lo : Option Addr) (cap p : Nat) (w : World) (hq : SbAt w q ca pa ea) (hl : IntsAt w lo l) (hok : subOk q l.length v) (hfit : ¬ fitOk q v l) : Calls Try.prog 9 #[.pointer (some ⟨p, 0, none⟩), subV q ca cc pa pc ea ec, .int .i64 v, .slice lo l.length cap] w fun e w' => e = .returned (.int .i64 60) ∧ Below w.heap.size w w' := by
  have hll := hl.len
  obtain ⟨hbl, hv, hwd, hkd⟩ := hok
  have KC : Hid (∀ wx a, a = subV q ca cc pa pc ea ec → Below w.heap.size w wx → Calls Try.prog 19 #[a, .int .i64 (l.length : Int), .int .i64 v] wx fun e w' => e = .returned (.int .i64 0) ∧ Below wx.heap.size wx w') := fun wx a ha hb => by rw [ha]; exact s_check q ca cc pa pc ea ec l.length v 0 (fun _ => rfl) (fun h => absurd ⟨hbl, hv, hwd, hkd⟩ h) wx (hq.below hb)
  have KF : Hid (∀ wx a, a = subV q ca cc pa pc ea ec → Below w.heap.size w wx → Calls Try.prog 20 #[a, .int .i64 v, .slice lo l.length cap] wx fun e w' => e = .returned (.bool false) ∧ Below wx.heap.size wx w') := fun wx a ha hb => by
    rw [ha]
    have h := s_fit q ca cc pa pc ea ec q.w.toNat (by omega) (by omega) l lo cap (v.toNat - 1) (by omega) false (ff_iff (by rw [show ((v.toNat - 1 : Nat) : Int) + 1 = v by omega]; exact hfit)) wx (hl.below hb)
    rw [show ((v.toNat - 1 : Nat) : Int) + 1 = v by omega] at h
    exact h
  clear hq hl hfit hkd
  have HA : Hid (SX w q ca cc pa pc ea ec (w.alloc (.cells (subC q ca cc pa pc ea ec) 26))) := SX.new w q ca cc pa pc ea ec
  go_enter Try.func9, Try.ntmps9
  go_upto_region 1 with fail
  generalize hwa : World.alloc _ _ = wa at *
  clear hwa
  obtain ⟨x0, x1, x2, x3, x4, x5, x6, x7, x8, x9⟩ := sub_cells HA.out.box
  go_wp2_with fail
  refine (KC.out _ _ (by simp []) HA.out.below).mono ?_
  rintro e wx_HA0 ⟨rfl, hb⟩
  have HA0 : Hid (SX w q ca cc pa pc ea ec wx_HA0) := HA.out.next hb
  clear hb HA x0 x1 x2 x3 x4 x5 x6 x7 x8 x9
  obtain ⟨x0, x1, x2, x3, x4, x5, x6, x7, x8, x9⟩ := sub_cells HA0.out.box
  go_wp2_with fail
  refine (KF.out _ _ (by simp []) HA0.out.below).mono ?_
  rintro e wx_HA1 ⟨rfl, hb⟩
  have HA1 : Hid (SX w q ca cc pa pc ea ec wx_HA1) := HA0.out.next hb
  clear hb HA0 x0 x1 x2 x3 x4 x5 x6 x7 x8 x9
  obtain ⟨x0, x1, x2, x3, x4, x5, x6, x7, x8, x9⟩ := sub_cells HA1.out.box
  go_wp2_with fail
  go_ret
  exact ⟨rfl, HA1.out.below⟩
set_option maxRecDepth 20000 in
set_option maxHeartbeats 3200000 in
theorem enc_res (q : Sb) (v : Int) (l : List Int) (ca : Option Addr) (cc : Nat) (pa : Option Addr) (pc : Nat) (ea : Option Addr) (ec : Nat) (lo : Option Addr) (cap p : Nat) (w : World) (hq : SbAt w q ca pa ea) (hl : IntsAt w lo l) (hok : subOk q l.length v) (hfit : fitOk q v l) (hres : ¬ (q.k = 2 ∨ q.k = 3 → encR q.R l.length q.o (resN q (shrL l q.w.toNat)) = true)) : Calls Try.prog 9 #[.pointer (some ⟨p, 0, none⟩), subV q ca cc pa pc ea ec, .int .i64 v, .slice lo l.length cap] w fun e w' => e = .returned (.int .i64 60) ∧ Below w.heap.size w w' := by
  have HBB : (false = true ↔ (q.k = 2 ∨ q.k = 3 → encR q.R l.length q.o (resN q (shrL l q.w.toNat)) = true)) := ff_iff hres
  have hll := hl.len
  obtain ⟨hbl, hv, hwd, hkd⟩ := hok
  have hk := kd_kinds hkd
  unfold kinds at hk
  have KC : Hid (∀ wx a, a = subV q ca cc pa pc ea ec → Below w.heap.size w wx → Calls Try.prog 19 #[a, .int .i64 (l.length : Int), .int .i64 v] wx fun e w' => e = .returned (.int .i64 0) ∧ Below wx.heap.size wx w') := fun wx a ha hb => by rw [ha]; exact s_check q ca cc pa pc ea ec l.length v 0 (fun _ => rfl) (fun h => absurd ⟨hbl, hv, hwd, hkd⟩ h) wx (hq.below hb)
  have KF : Hid (∀ wx a, a = subV q ca cc pa pc ea ec → Below w.heap.size w wx → Calls Try.prog 20 #[a, .int .i64 v, .slice lo l.length cap] wx fun e w' => e = .returned (.bool true) ∧ Below wx.heap.size wx w') := fun wx a ha hb => by
    rw [ha]
    have h := s_fit q ca cc pa pc ea ec q.w.toNat (by omega) (by omega) l lo cap (v.toNat - 1) (by omega) true (tt_iff (by rw [show ((v.toNat - 1 : Nat) : Int) + 1 = v by omega]; exact hfit)) wx (hl.below hb)
    rw [show ((v.toNat - 1 : Nat) : Int) + 1 = v by omega] at h
    exact h
  have KH : Hid (∀ wx a d, a = subV q ca cc pa pc ea ec → WrB wx d none [] → Calls Try.prog 21 #[.pointer (some ⟨d, 0, none⟩), a] wx fun en w' => en = .returned (.tuple #[]) ∧ ∃ ao', WrB w' d ao' ([] ++ (putB (typN q) 7 ++ wstB q.w)) ∧ Stays (foot d none) wx w' ∧ Moved wx.heap.size none ao') := fun wx a d ha hw => by
    rw [ha]; exact s_head q ca cc pa pc ea ec (by omega) (by omega) (by omega) d none [] Bits01.nil (by simp) wx hw
  have KD : Hid (∀ wx, Below w.heap.size w wx → Calls Try.prog 23 #[.slice lo l.length cap, .int .i64 q.w] wx fun e w' => ∃ ga gc, e = .returned (.slice ga (shrL l q.w.toNat).length gc) ∧ Made wx ga gc (shrL l q.w.toNat) w') := fun wx hb => by
    have h := s_div l q.w.toNat (by omega) lo cap wx (hl.below hb)
    rw [show ((q.w.toNat : Nat) : Int) = q.w by omega] at h
    exact h
  have hsl := shr_len l q.w.toNat
  have HD0 : Hid ((putB (typN q) 7 ++ wstB q.w).length ≤ 100000000 ∧ Bits01 (putB (typN q) 7 ++ wstB q.w)) := by
    refine ⟨?_, (putB_01 _ _).append (wstB_01 _)⟩
    rw [List.length_append]
    have := putB_short (typN q) 7 (by decide)
    have := wstB_short q.w (by omega)
    omega
  have KB : Hid (∀ d wx, ∀ ad, DR w q ca cc pa pc ea ec d ad (putB (typN q) 7 ++ wstB q.w) wx → ∀ g mc, (shrL l q.w.toNat).length ≤ mc → IntsAt wx (some ⟨g, 0, none⟩) (shrL l q.w.toNat) → Apart d ad (some ⟨g, 0, none⟩) (shrL l q.w.toNat) → Calls Try.prog 22 #[.pointer (some ⟨d, 0, none⟩), subV q ca cc pa pc ea ec, .int .i64 (v - q.w), .slice (some ⟨g, 0, none⟩) (shrL l q.w.toNat).length mc] wx fun e w' => e = .returned (.bool false) ∧ ∃ ao', (false = true → WrB w' d ao' ((putB (typN q) 7 ++ wstB q.w) ++ bodyB q v (shrL l q.w.toNat))) ∧ Stays (foot d ad) wx w' ∧ Moved wx.heap.size ad ao') := fun d wx ad hD g mc hmc hm ham => by
    have hle := hD.low
    exact s_body q ca cc pa pc ea ec v (shrL l q.w.toNat) g mc hmc d ad _ HD0.out.2 HD0.out.1 wx (by rw [hsl]; exact ⟨hbl, hv, hwd, hkd⟩) (hq.below hle) hm hD.wr (hD.apart hq.C) (hD.apart hq.R.P) (hD.apart hq.R.E) ham false (by rw [hsl]; exact HBB)
  clear hq hl hfit hkd hk HBB hres hsl
  have HA : Hid (SX w q ca cc pa pc ea ec (w.alloc (.cells (subC q ca cc pa pc ea ec) 26))) := SX.new w q ca cc pa pc ea ec
  go_enter Try.func9, Try.ntmps9
  go_upto_region 1 with fail
  generalize hwa : World.alloc _ _ = wa at *
  clear hwa
  obtain ⟨x0, x1, x2, x3, x4, x5, x6, x7, x8, x9⟩ := sub_cells HA.out.box
  go_wp2_with fail
  refine (KC.out _ _ (by simp []) HA.out.below).mono ?_
  rintro e wx_HA0 ⟨rfl, hb⟩
  have HA0 : Hid (SX w q ca cc pa pc ea ec wx_HA0) := HA.out.next hb
  clear hb HA x0 x1 x2 x3 x4 x5 x6 x7 x8 x9
  obtain ⟨x0, x1, x2, x3, x4, x5, x6, x7, x8, x9⟩ := sub_cells HA0.out.box
  go_wp2_with fail
  refine (KF.out _ _ (by simp) HA0.out.below).mono ?_
  rintro e w2 ⟨rfl, hb⟩
  have HA1 : Hid (SX w q ca cc pa pc ea ec w2) := HA0.out.next hb
  clear hb HA0 x0 x1 x2 x3 x4 x5 x6 x7 x8 x9
  obtain ⟨x0, x1, x2, x3, x4, x5, x6, x7, x8, x9⟩ := sub_cells HA1.out.box
  have kn := new_spec w2
  go_wp2_with fail
  refine kn.mono ?_
  rintro e w3 ⟨rfl, hw3, ew3⟩
  have D3 : Hid (DR w q ca cc pa pc ea ec w2.heap.size none [] w3) := by rw [ew3] at hw3 ⊢; exact DR.start HA1.out _ hw3
  clear kn ew3 hw3 HA1 x0 x1 x2 x3 x4 x5 x6 x7 x8 x9
  generalize w2.heap.size = d at *
  obtain ⟨x0, x1, x2, x3, x4, x5, x6, x7, x8, x9⟩ := sub_cells D3.out.box
  go_wp2_with fail
  refine (KH.out _ _ _ (by simp) D3.out.wr).mono ?_
  rintro e w5 ⟨rfl, ad5, hw5, hs5, hv5⟩
  have D5 : Hid (DR w q ca cc pa pc ea ec d ad5 (putB (typN q) 7 ++ wstB q.w) w5) := D3.out.put hs5 hv5 hw5
  have D5d : Hid (DR w q ca cc pa pc ea ec d ad5 (putB (typN q) 7 ++ wstB q.w) w5.drew) := D5.out.next ⟨rfl, rfl, rfl, Nat.le_refl _, fun _ _ => rfl⟩
  clear hw5 hs5 hv5 D3 D5 KH x0 x1 x2 x3 x4 x5 x6 x7 x8 x9
  go_wp2_with fail
  refine wp_region_held_drew (S := fun wx => wx.heap[w.heap.size]? = some (.cells (subC q ca cc pa pc ea ec) 26 (0, 0))) (by kernel_rfl) D5d.out.box (fun hS => ?_)
  refine wpAnyH_take (i := 0) (v := .pointer (some ⟨d, 0, none⟩)) rfl (by kernel_rfl) (by kernel_rfl) (by kernel_rfl) (fun _ _ _ h => h) (Or.inl ⟨by rfl, fun w hSw => by go_simp⟩) hS ?_
  simp only [Act.put, List.getElem_toArray, List.getElem_cons_succ, List.getElem_cons_zero, List.setIfInBounds_toArray, List.set_cons_zero, List.set_cons_succ]
  refine wpAnyH_take (i := 1) (v := subV q ca cc pa pc ea ec) rfl (by kernel_rfl) (by kernel_rfl) (by kernel_rfl) (fun _ _ _ h => h) (Or.inl ⟨by rfl, fun w hSw => by obtain ⟨x0, x1, x2, x3, x4, x5, x6, x7, x8, x9⟩ := sub_cells hSw; go_simp⟩) hS ?_
  simp only [Act.put, List.getElem_toArray, List.getElem_cons_succ, List.getElem_cons_zero, List.setIfInBounds_toArray, List.set_cons_zero, List.set_cons_succ]
  refine wpAnyH_take (i := 2) (v := .int .i64 v) rfl (by kernel_rfl) (by kernel_rfl) (by kernel_rfl) (fun _ _ _ h => h) (Or.inl ⟨by rfl, fun w hSw => by go_simp⟩) hS ?_
  simp only [Act.put, List.getElem_toArray, List.getElem_cons_succ, List.getElem_cons_zero, List.setIfInBounds_toArray, List.set_cons_zero, List.set_cons_succ]
  refine wpAnyH_take (i := 3) (v := .pointer (some ⟨w.heap.size, 2, none⟩)) rfl (by kernel_rfl) (by kernel_rfl) (by kernel_rfl) (fun _ _ _ h => h) (Or.inl ⟨by rfl, fun w hSw => by go_simp⟩) hS ?_
  simp only [Act.put, List.getElem_toArray, List.getElem_cons_succ, List.getElem_cons_zero, List.setIfInBounds_toArray, List.set_cons_zero, List.set_cons_succ]
  refine wpAnyH_take (i := 4) (v := .int .i64 q.w) rfl (by kernel_rfl) (by kernel_rfl) (by kernel_rfl) (fun _ _ _ h => h) (Or.inl ⟨by rfl, fun w hSw => by obtain ⟨x0, x1, x2, x3, x4, x5, x6, x7, x8, x9⟩ := sub_cells hSw; go_simp⟩) hS ?_
  simp only [Act.put, List.getElem_toArray, List.getElem_cons_succ, List.getElem_cons_zero, List.setIfInBounds_toArray, List.set_cons_zero, List.set_cons_succ]
  refine wpAnyH_take (i := 5) (v := .int .i64 (v - q.w)) rfl (by kernel_rfl) (by kernel_rfl) (by kernel_rfl) (fun _ _ _ h => h) (Or.inl ⟨by rfl, fun w hSw => by go_simp; rw [IntKind.wrap_i64]; omega⟩) hS ?_
  simp only [Act.put, List.getElem_toArray, List.getElem_cons_succ, List.getElem_cons_zero, List.setIfInBounds_toArray, List.set_cons_zero, List.set_cons_succ]
  refine wpAnyH_take (i := 6) (v := .slice lo l.length cap) rfl (by kernel_rfl) (by kernel_rfl) (by kernel_rfl) (fun _ _ _ h => h) (Or.inl ⟨by rfl, fun w hSw => by go_simp⟩) hS ?_
  simp only [Act.put, List.getElem_toArray, List.getElem_cons_succ, List.getElem_cons_zero, List.setIfInBounds_toArray, List.set_cons_zero, List.set_cons_succ]
  refine wpAnyH_take (i := 7) (v := .pointer (some ⟨w.heap.size, 2, none⟩)) rfl (by kernel_rfl) (by kernel_rfl) (by kernel_rfl) (fun _ _ _ h => h) (Or.inl ⟨by rfl, fun w hSw => by go_simp⟩) hS ?_
  simp only [Act.put, List.getElem_toArray, List.getElem_cons_succ, List.getElem_cons_zero, List.setIfInBounds_toArray, List.set_cons_zero, List.set_cons_succ]
  refine wpAnyH_take (i := 8) (v := .int .i64 q.w) rfl (by kernel_rfl) (by kernel_rfl) (by kernel_rfl) (fun _ _ _ h => h) (Or.inl ⟨by rfl, fun w hSw => by obtain ⟨x0, x1, x2, x3, x4, x5, x6, x7, x8, x9⟩ := sub_cells hSw; go_simp⟩) hS ?_
  simp only [Act.put, List.getElem_toArray, List.getElem_cons_succ, List.getElem_cons_zero, List.setIfInBounds_toArray, List.set_cons_zero, List.set_cons_succ]
  refine wpAnyH_ready (rs := [9]) (by kernel_rfl) (by simp) ?_
  refine AllReadyH.cons rfl (fun K hK => ?_) AllReadyH.nil
  go_simp
  refine (KD.out _ D5d.out.low).mono ?_
  rintro e w6 ⟨ga, gc, rfl, hmd⟩
  have D6 := D5d.out.next hmd.below
  obtain ⟨g6, rfl, hg6, hrow⟩ := hmd.at_
  have kb := KB.out d w6 ad5 D6 g6 gc hmd.cap_ hmd.ints (apart_made hmd D5d.out.wr)
  clear hrow
  refine hK.out _ _ D6.box (fun hS6 => ?_)
  clear hK K KB KD
  try simp only [Act.put, List.getElem_toArray, List.getElem_cons_succ, List.getElem_cons_zero, List.setIfInBounds_toArray, List.set_cons_zero, List.set_cons_succ]
  refine wpAnyH_ready (rs := [10]) (by kernel_rfl) (by simp) ?_
  refine AllReadyH.cons rfl (fun K hK => ?_) AllReadyH.nil
  go_simp
  refine kb.mono ?_
  rintro e w7 ⟨rfl, ad7, hwr7, hst7, hmv7⟩
  have HL7 : Hid (Below w.heap.size w w7) := D6.stay hst7
  have hS7 : w7.heap[w.heap.size]? = some (.cells (subC q ca cc pa pc ea ec) 26 (0, 0)) := D6.boxstay hst7
  refine hK.out _ _ hS7 (fun hS8 => ?_)
  clear hK K kb hwr7 hst7 hmv7 D6 D5d hmd hg6
  try simp only [Act.put, List.getElem_toArray, List.getElem_cons_succ, List.getElem_cons_zero, List.setIfInBounds_toArray, List.set_cons_zero, List.set_cons_succ]
  refine wpAnyH_take (i := 11) (v := .bool true) rfl (by kernel_rfl) (by kernel_rfl) (by kernel_rfl) (fun _ _ _ h => h) (Or.inl ⟨by rfl, fun w hSw => by go_simp⟩) hS8 ?_
  simp only [Act.put, List.getElem_toArray, List.getElem_cons_succ, List.getElem_cons_zero, List.setIfInBounds_toArray, List.set_cons_zero, List.set_cons_succ]
  refine wpAnyH_done (by kernel_rfl) ?_ _
  go_wp2_with fail
  go_ret
  exact ⟨rfl, HL7.out⟩

set_option maxRecDepth 20000 in
set_option maxHeartbeats 3200000 in
theorem enc_main (q : Sb) (v : Int) (l : List Int) (ca : Option Addr) (cc : Nat) (pa : Option Addr) (pc : Nat) (ea : Option Addr) (ec : Nat) (lo : Option Addr) (cap p : Nat) (ao : Option Addr) (B : List Nat) (h01 : Bits01 B) (hB : B.length ≤ 1000000000) (w : World) (hq : SbAt w q ca pa ea) (hl : IntsAt w lo l) (hw : WrB w p ao B) (hS : okS q v l) : Calls Try.prog 9 #[.pointer (some ⟨p, 0, none⟩), subV q ca cc pa pc ea ec, .int .i64 v, .slice lo l.length cap] w fun e w' => e = .returned (.int .i64 0) ∧ ∃ ao', WrB w' p ao' (B ++ subB q v l) ∧ Stays (foot p ao) w w' ∧ Moved w.heap.size ao ao' := by
  have HBB : (true = true ↔ (q.k = 2 ∨ q.k = 3 → encR q.R l.length q.o (resN q (shrL l q.w.toNat)) = true)) := tt_iff hS.2.2.2.2
  have hok := hS.1
  have hfit : fitOk q v l := ⟨hS.2.1, hS.2.2.1, hS.2.2.2.1⟩
  have hroom := subB_room q v l hS
  have hs01 := subB_01 q v l
  have HSB : (putB (typN q) 7 ++ wstB q.w) ++ bodyB q v (shrL l q.w.toNat) = subB q v l := by unfold subB; rw [List.append_assoc]
  have KP : Hid (∀ wx d ad, Below w.heap.size w wx → WrB wx d ad ((putB (typN q) 7 ++ wstB q.w) ++ bodyB q v (shrL l q.w.toNat)) → Calls Try.prog 24 #[.pointer (some ⟨p, 0, none⟩), .pointer (some ⟨d, 0, none⟩)] wx fun e w' => e = .returned (.tuple #[]) ∧ ∃ ao', WrB w' p ao' (B ++ subB q v l) ∧ Stays (foot p ao) wx w' ∧ Moved wx.heap.size ao ao') := fun wx d ad hb hd => by
    rw [HSB] at hd
    exact s_pour p ao B d ad (subB q v l) h01 hs01 (by omega) wx (hw.below hb) hd
  have HFIN : Hid (∀ wx w8 ao8, Below w.heap.size w wx → WrB w8 p ao8 (B ++ subB q v l) → Stays (foot p ao) wx w8 → Moved wx.heap.size ao ao8 → WrB w8 p ao8 (B ++ subB q v l) ∧ Stays (foot p ao) w w8 ∧ Moved w.heap.size ao ao8) := fun wx w8 ao8 hb h1 h2 h3 =>
    ⟨h1, (Stays.of_below hb (foot p ao)).trans h2 (fun _ _ h => h), (Moved.refl _ _).trans h3 hb.size⟩
  clear hw hS h01 hroom hs01
  have hll := hl.len
  obtain ⟨hbl, hv, hwd, hkd⟩ := hok
  have hk := kd_kinds hkd
  unfold kinds at hk
  have KC : Hid (∀ wx a, a = subV q ca cc pa pc ea ec → Below w.heap.size w wx → Calls Try.prog 19 #[a, .int .i64 (l.length : Int), .int .i64 v] wx fun e w' => e = .returned (.int .i64 0) ∧ Below wx.heap.size wx w') := fun wx a ha hb => by rw [ha]; exact s_check q ca cc pa pc ea ec l.length v 0 (fun _ => rfl) (fun h => absurd ⟨hbl, hv, hwd, hkd⟩ h) wx (hq.below hb)
  have KF : Hid (∀ wx a, a = subV q ca cc pa pc ea ec → Below w.heap.size w wx → Calls Try.prog 20 #[a, .int .i64 v, .slice lo l.length cap] wx fun e w' => e = .returned (.bool true) ∧ Below wx.heap.size wx w') := fun wx a ha hb => by
    rw [ha]
    have h := s_fit q ca cc pa pc ea ec q.w.toNat (by omega) (by omega) l lo cap (v.toNat - 1) (by omega) true (tt_iff (by rw [show ((v.toNat - 1 : Nat) : Int) + 1 = v by omega]; exact hfit)) wx (hl.below hb)
    rw [show ((v.toNat - 1 : Nat) : Int) + 1 = v by omega] at h
    exact h
  have KH : Hid (∀ wx a d, a = subV q ca cc pa pc ea ec → WrB wx d none [] → Calls Try.prog 21 #[.pointer (some ⟨d, 0, none⟩), a] wx fun en w' => en = .returned (.tuple #[]) ∧ ∃ ao', WrB w' d ao' ([] ++ (putB (typN q) 7 ++ wstB q.w)) ∧ Stays (foot d none) wx w' ∧ Moved wx.heap.size none ao') := fun wx a d ha hw => by
    rw [ha]; exact s_head q ca cc pa pc ea ec (by omega) (by omega) (by omega) d none [] Bits01.nil (by simp) wx hw
  have KD : Hid (∀ wx, Below w.heap.size w wx → Calls Try.prog 23 #[.slice lo l.length cap, .int .i64 q.w] wx fun e w' => ∃ ga gc, e = .returned (.slice ga (shrL l q.w.toNat).length gc) ∧ Made wx ga gc (shrL l q.w.toNat) w') := fun wx hb => by
    have h := s_div l q.w.toNat (by omega) lo cap wx (hl.below hb)
    rw [show ((q.w.toNat : Nat) : Int) = q.w by omega] at h
    exact h
  have hsl := shr_len l q.w.toNat
  have HD0 : Hid ((putB (typN q) 7 ++ wstB q.w).length ≤ 100000000 ∧ Bits01 (putB (typN q) 7 ++ wstB q.w)) := by
    refine ⟨?_, (putB_01 _ _).append (wstB_01 _)⟩
    rw [List.length_append]
    have := putB_short (typN q) 7 (by decide)
    have := wstB_short q.w (by omega)
    omega
  have KB : Hid (∀ d wx, ∀ ad, DR w q ca cc pa pc ea ec d ad (putB (typN q) 7 ++ wstB q.w) wx → ∀ g mc, (shrL l q.w.toNat).length ≤ mc → IntsAt wx (some ⟨g, 0, none⟩) (shrL l q.w.toNat) → Apart d ad (some ⟨g, 0, none⟩) (shrL l q.w.toNat) → Calls Try.prog 22 #[.pointer (some ⟨d, 0, none⟩), subV q ca cc pa pc ea ec, .int .i64 (v - q.w), .slice (some ⟨g, 0, none⟩) (shrL l q.w.toNat).length mc] wx fun e w' => e = .returned (.bool true) ∧ ∃ ao', (true = true → WrB w' d ao' ((putB (typN q) 7 ++ wstB q.w) ++ bodyB q v (shrL l q.w.toNat))) ∧ Stays (foot d ad) wx w' ∧ Moved wx.heap.size ad ao') := fun d wx ad hD g mc hmc hm ham => by
    have hle := hD.low
    exact s_body q ca cc pa pc ea ec v (shrL l q.w.toNat) g mc hmc d ad _ HD0.out.2 HD0.out.1 wx (by rw [hsl]; exact ⟨hbl, hv, hwd, hkd⟩) (hq.below hle) hm hD.wr (hD.apart hq.C) (hD.apart hq.R.P) (hD.apart hq.R.E) ham true (by rw [hsl]; exact HBB)
  clear hq hl hfit hkd hk HBB HSB hsl
  have HA : Hid (SX w q ca cc pa pc ea ec (w.alloc (.cells (subC q ca cc pa pc ea ec) 26))) := SX.new w q ca cc pa pc ea ec
  go_enter Try.func9, Try.ntmps9
  go_upto_region 1 with fail
  generalize hwa : World.alloc _ _ = wa at *
  clear hwa
  obtain ⟨x0, x1, x2, x3, x4, x5, x6, x7, x8, x9⟩ := sub_cells HA.out.box
  go_wp2_with fail
  refine (KC.out _ _ (by simp []) HA.out.below).mono ?_
  rintro e wx_HA0 ⟨rfl, hb⟩
  have HA0 : Hid (SX w q ca cc pa pc ea ec wx_HA0) := HA.out.next hb
  clear hb HA x0 x1 x2 x3 x4 x5 x6 x7 x8 x9
  obtain ⟨x0, x1, x2, x3, x4, x5, x6, x7, x8, x9⟩ := sub_cells HA0.out.box
  go_wp2_with fail
  refine (KF.out _ _ (by simp) HA0.out.below).mono ?_
  rintro e w2 ⟨rfl, hb⟩
  have HA1 : Hid (SX w q ca cc pa pc ea ec w2) := HA0.out.next hb
  clear hb HA0 x0 x1 x2 x3 x4 x5 x6 x7 x8 x9
  obtain ⟨x0, x1, x2, x3, x4, x5, x6, x7, x8, x9⟩ := sub_cells HA1.out.box
  have kn := new_spec w2
  go_wp2_with fail
  refine kn.mono ?_
  rintro e w3 ⟨rfl, hw3, ew3⟩
  have D3 : Hid (DR w q ca cc pa pc ea ec w2.heap.size none [] w3) := by rw [ew3] at hw3 ⊢; exact DR.start HA1.out _ hw3
  clear kn ew3 hw3 HA1 x0 x1 x2 x3 x4 x5 x6 x7 x8 x9
  generalize w2.heap.size = d at *
  obtain ⟨x0, x1, x2, x3, x4, x5, x6, x7, x8, x9⟩ := sub_cells D3.out.box
  go_wp2_with fail
  refine (KH.out _ _ _ (by simp) D3.out.wr).mono ?_
  rintro e w5 ⟨rfl, ad5, hw5, hs5, hv5⟩
  have D5 : Hid (DR w q ca cc pa pc ea ec d ad5 (putB (typN q) 7 ++ wstB q.w) w5) := D3.out.put hs5 hv5 hw5
  have D5d : Hid (DR w q ca cc pa pc ea ec d ad5 (putB (typN q) 7 ++ wstB q.w) w5.drew) := D5.out.next ⟨rfl, rfl, rfl, Nat.le_refl _, fun _ _ => rfl⟩
  clear hw5 hs5 hv5 D3 D5 KH x0 x1 x2 x3 x4 x5 x6 x7 x8 x9
  go_wp2_with fail
  refine wp_region_held_drew (S := fun wx => wx.heap[w.heap.size]? = some (.cells (subC q ca cc pa pc ea ec) 26 (0, 0))) (by kernel_rfl) D5d.out.box (fun hS => ?_)
  refine wpAnyH_take (i := 0) (v := .pointer (some ⟨d, 0, none⟩)) rfl (by kernel_rfl) (by kernel_rfl) (by kernel_rfl) (fun _ _ _ h => h) (Or.inl ⟨by rfl, fun w hSw => by go_simp⟩) hS ?_
  simp only [Act.put, List.getElem_toArray, List.getElem_cons_succ, List.getElem_cons_zero, List.setIfInBounds_toArray, List.set_cons_zero, List.set_cons_succ]
  refine wpAnyH_take (i := 1) (v := subV q ca cc pa pc ea ec) rfl (by kernel_rfl) (by kernel_rfl) (by kernel_rfl) (fun _ _ _ h => h) (Or.inl ⟨by rfl, fun w hSw => by obtain ⟨x0, x1, x2, x3, x4, x5, x6, x7, x8, x9⟩ := sub_cells hSw; go_simp⟩) hS ?_
  simp only [Act.put, List.getElem_toArray, List.getElem_cons_succ, List.getElem_cons_zero, List.setIfInBounds_toArray, List.set_cons_zero, List.set_cons_succ]
  refine wpAnyH_take (i := 2) (v := .int .i64 v) rfl (by kernel_rfl) (by kernel_rfl) (by kernel_rfl) (fun _ _ _ h => h) (Or.inl ⟨by rfl, fun w hSw => by go_simp⟩) hS ?_
  simp only [Act.put, List.getElem_toArray, List.getElem_cons_succ, List.getElem_cons_zero, List.setIfInBounds_toArray, List.set_cons_zero, List.set_cons_succ]
  refine wpAnyH_take (i := 3) (v := .pointer (some ⟨w.heap.size, 2, none⟩)) rfl (by kernel_rfl) (by kernel_rfl) (by kernel_rfl) (fun _ _ _ h => h) (Or.inl ⟨by rfl, fun w hSw => by go_simp⟩) hS ?_
  simp only [Act.put, List.getElem_toArray, List.getElem_cons_succ, List.getElem_cons_zero, List.setIfInBounds_toArray, List.set_cons_zero, List.set_cons_succ]
  refine wpAnyH_take (i := 4) (v := .int .i64 q.w) rfl (by kernel_rfl) (by kernel_rfl) (by kernel_rfl) (fun _ _ _ h => h) (Or.inl ⟨by rfl, fun w hSw => by obtain ⟨x0, x1, x2, x3, x4, x5, x6, x7, x8, x9⟩ := sub_cells hSw; go_simp⟩) hS ?_
  simp only [Act.put, List.getElem_toArray, List.getElem_cons_succ, List.getElem_cons_zero, List.setIfInBounds_toArray, List.set_cons_zero, List.set_cons_succ]
  refine wpAnyH_take (i := 5) (v := .int .i64 (v - q.w)) rfl (by kernel_rfl) (by kernel_rfl) (by kernel_rfl) (fun _ _ _ h => h) (Or.inl ⟨by rfl, fun w hSw => by go_simp; rw [IntKind.wrap_i64]; omega⟩) hS ?_
  simp only [Act.put, List.getElem_toArray, List.getElem_cons_succ, List.getElem_cons_zero, List.setIfInBounds_toArray, List.set_cons_zero, List.set_cons_succ]
  refine wpAnyH_take (i := 6) (v := .slice lo l.length cap) rfl (by kernel_rfl) (by kernel_rfl) (by kernel_rfl) (fun _ _ _ h => h) (Or.inl ⟨by rfl, fun w hSw => by go_simp⟩) hS ?_
  simp only [Act.put, List.getElem_toArray, List.getElem_cons_succ, List.getElem_cons_zero, List.setIfInBounds_toArray, List.set_cons_zero, List.set_cons_succ]
  refine wpAnyH_take (i := 7) (v := .pointer (some ⟨w.heap.size, 2, none⟩)) rfl (by kernel_rfl) (by kernel_rfl) (by kernel_rfl) (fun _ _ _ h => h) (Or.inl ⟨by rfl, fun w hSw => by go_simp⟩) hS ?_
  simp only [Act.put, List.getElem_toArray, List.getElem_cons_succ, List.getElem_cons_zero, List.setIfInBounds_toArray, List.set_cons_zero, List.set_cons_succ]
  refine wpAnyH_take (i := 8) (v := .int .i64 q.w) rfl (by kernel_rfl) (by kernel_rfl) (by kernel_rfl) (fun _ _ _ h => h) (Or.inl ⟨by rfl, fun w hSw => by obtain ⟨x0, x1, x2, x3, x4, x5, x6, x7, x8, x9⟩ := sub_cells hSw; go_simp⟩) hS ?_
  simp only [Act.put, List.getElem_toArray, List.getElem_cons_succ, List.getElem_cons_zero, List.setIfInBounds_toArray, List.set_cons_zero, List.set_cons_succ]
  refine wpAnyH_ready (rs := [9]) (by kernel_rfl) (by simp) ?_
  refine AllReadyH.cons rfl (fun K hK => ?_) AllReadyH.nil
  go_simp
  refine (KD.out _ D5d.out.low).mono ?_
  rintro e w6 ⟨ga, gc, rfl, hmd⟩
  have D6 := D5d.out.next hmd.below
  obtain ⟨g6, rfl, hg6, hrow⟩ := hmd.at_
  have kb := KB.out d w6 ad5 D6 g6 gc hmd.cap_ hmd.ints (apart_made hmd D5d.out.wr)
  clear hrow
  refine hK.out _ _ D6.box (fun hS6 => ?_)
  clear hK K KB KD
  try simp only [Act.put, List.getElem_toArray, List.getElem_cons_succ, List.getElem_cons_zero, List.setIfInBounds_toArray, List.set_cons_zero, List.set_cons_succ]
  refine wpAnyH_ready (rs := [10]) (by kernel_rfl) (by simp) ?_
  refine AllReadyH.cons rfl (fun K hK => ?_) AllReadyH.nil
  go_simp
  refine kb.mono ?_
  rintro e w7 ⟨rfl, ad7, hwr7, hst7, hmv7⟩
  have HW7 : Hid (DR w q ca cc pa pc ea ec d ad7 ((putB (typN q) 7 ++ wstB q.w) ++ bodyB q v (shrL l q.w.toNat)) w7) := D6.put hst7 hmv7 (hwr7 (by trivial))
  refine hK.out _ _ HW7.out.box (fun hS8 => ?_)
  clear hK K kb hwr7 hst7 hmv7 D6 D5d hmd hg6
  try simp only [Act.put, List.getElem_toArray, List.getElem_cons_succ, List.getElem_cons_zero, List.setIfInBounds_toArray, List.set_cons_zero, List.set_cons_succ]
  refine wpAnyH_take (i := 11) (v := .bool false) rfl (by kernel_rfl) (by kernel_rfl) (by kernel_rfl) (fun _ _ _ h => h) (Or.inl ⟨by rfl, fun w hSw => by go_simp⟩) hS8 ?_
  simp only [Act.put, List.getElem_toArray, List.getElem_cons_succ, List.getElem_cons_zero, List.setIfInBounds_toArray, List.set_cons_zero, List.set_cons_succ]
  refine wpAnyH_done (by kernel_rfl) ?_ _
  have kp := KP.out w7 d ad7 HW7.out.low HW7.out.wr
  clear KP HD0
  go_wp2_with fail
  refine kp.mono ?_
  rintro e w8 ⟨rfl, ao8, hw8, hs8, hv8⟩
  have HF : Hid (WrB w8 p ao8 (B ++ subB q v l) ∧ Stays (foot p ao) w w8 ∧ Moved w.heap.size ao ao8) := HFIN.out w7 w8 ao8 HW7.out.low hw8 hs8 hv8
  clear hw8 hs8 hv8 HW7 kp
  go_wp2_with fail
  go_ret
  exact ⟨rfl, ao8, HF.out.1, HF.out.2.1, HF.out.2.2⟩


end Go.Proofs.Ytkhdkmdiblomhaa

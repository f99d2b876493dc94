/- Own text. -/
import Derived.Test.YthgpleelpeacjaaGreatDoorE18
import Derived.Test.YthgpleelpeacjaaGreatDoorE14
set_option linter.unusedSimpArgs false
set_option linter.unusedVariables false
set_option maxRecDepth 20000
set_option maxHeartbeats 12800000
namespace Go.Proofs.YthgpleelpeacjaaGreatDoor
open Go.RowKit
theorem sigB_short (n k : Int) : (sigB n k).length ≤ 64 := by
 unfold sigB; split
 ·rw [bitsOf_length]; omega
 ·simp
theorem unrB_short (n : Int) (h : n ≤ 100) : (unrB n).length ≤ 101 := by
 unfold unrB; split
 ·rw [List.length_append, List.length_replicate, List.length_singleton]; omega
 ·simp
theorem wstB_short (w : Int) (h : w ≤ 33) : (wstB w).length ≤ 200 := by
 unfold wstB; split
 ·rw [List.length_append]; have := putB_short 1 1 (by decide); have := unrB_short (w - 1) (by omega); omega
 ·have := putB_short 0 1 (by decide); omega
theorem wstB_01 (w : Int) : Bits01 (wstB w) := by
 unfold wstB; split
 ·exact (putB_01 _ _).append (unrB_01 _)
 ·exact putB_01 _ _
theorem bodyB_01 (q : Sb) (v : Int) (m : List Int) : Bits01 (bodyB q v m) := by
 unfold bodyB
 split
 ·exact sigB_01 _ _
 ·split
  ·exact numsB_01 _ _ _
  ·split
   ·exact (numsB_01 _ _ _).append (encB_01 _ _ _ _)
   ·exact (numsB_01 _ _ _).append ((putB_01 _ _).append ((putB_01 _ _).append ((numsB_01 _ _ _).append (encB_01 _ _ _ _))))
theorem subB_01 (q : Sb) (v : Int) (l : List Int) : Bits01 (subB q v l) := (putB_01 _ _).append ((wstB_01 _).append (bodyB_01 _ _ _))
theorem encR_room {c : Rc} {b r : Int} {l : List Int} (h : encR c b r l = true) : (encB c b.toNat r.toNat l).length ≤ 1300000000000 := by
 obtain ⟨b', o', r', rfl, rfl, hk, hf⟩ := encR_yes h
 have hl := ((fitB_iff c b' o' r' l).1 hf).1
 have := hk.cut.b2
 exact encB_room c b' o' r' hk l hl (by omega)
theorem subB_room (q : Sb) (v : Int) (l : List Int) (h : okS q v l) : (subB q v l).length ≤ 1400000000000 := by
 obtain ⟨⟨hb, hv, hw, hkd⟩, hf, hd, hs, hr⟩ := h
 have hml : (shrL l q.w.toNat).length = l.length := shr_len l q.w.toNat
 have hll : l.length ≤ 65535 := by omega
 have e1 := putB_short (typN q) 7 (by decide)
 have e2 := wstB_short q.w (by omega)
 have hres : (q.k = 2 ∨ q.k = 3) → (encB q.R (shrL l q.w.toNat).length q.o.toNat (resN q (shrL l q.w.toNat))).length ≤ 1300000000000 := fun hk => by
  have := encR_room (hr hk)
  rw [Int.toNat_natCast] at this
  rw [hml]; exact this
 have hnm : ∀ X : List Int, X.length ≤ 65535 → (numsB 0 (v - q.w) X).length ≤ 64 * 65535 := fun X hX => by
  have := numsB_fit_len (v - q.w) X (by omega) (by omega); omega
 have htk : ((shrL l q.w.toNat).take q.o.toNat).length ≤ 65535 := by rw [List.length_take]; omega
 have hbody : (bodyB q v (shrL l q.w.toNat)).length ≤ 1390000000000 := by
  unfold bodyB
  split
  ·have := sigB_short ((shrL l q.w.toNat).getD 0 0) (v - q.w); omega
  ·split
   ·have := hnm (shrL l q.w.toNat) (by omega); omega
   ·split
    ·rename_i hk
     rw [List.length_append]
     have := hnm _ htk; have := hres (Or.inl hk); omega
    ·rename_i k0 k1 k2
     have hk3 : q.k = 3 := by have := kd_kinds hkd; unfold kinds at this; omega
     have hL : q.p ≤ 15 ∧ 1 ≤ q.p ∧ (q.C.length : Int) = q.o ∧ q.o ≤ 32 := by
      rcases hkd with hA | hF | hL
      ·have := hA.1; omega
      ·have := hF.1; omega
      ·obtain ⟨_, _, h3, _, h5, h6, _, _, h9, _⟩ := hL; exact ⟨h6, h5, h9, h3⟩
     simp only [List.length_append]
     have a1 := hnm _ htk
     have a2 := hres (Or.inr hk3)
     have a3 := putB_short (q.p - 1) 4 (by decide)
     have a4 := putB_short q.h 5 (by decide)
     have a5 := numsB_fit_len q.p q.C (by omega) (by omega)
     omega
 unfold subB
 simp only [List.length_append]
 omega
structure DR (w : World) (q : Sb) (ca : Option Addr) (cc : Nat) (pa : Option Addr) (pc : Nat) (ea : Option Addr) (ec : Nat) (d : Nat) (ad : Option Addr) (D : List Nat) (wx : World) : Prop where
 box : wx.heap[w.heap.size]? = some (.cells (subC q ca cc pa pc ea ec) 27 (0, 0))
 wr : WrB wx d ad D
 low : Below w.heap.size w wx
 hd : w.heap.size < d
 nd : ∀ b, blockOf ad = some b → w.heap.size < b
section
variable {w wx w' : World} {q : Sb} {ca : Option Addr} {cc : Nat} {pa : Option Addr} {pc : Nat} {ea : Option Addr} {ec : Nat} {d : Nat} {ad ad' : Option Addr} {D D' : List Nat}
theorem DR.put (h : DR w q ca cc pa pc ea ec d ad D wx) (hs : Stays (foot d ad) wx w') (hv : Moved wx.heap.size ad ad') (hw : WrB w' d ad' D') : DR w q ca cc pa pc ea ec d ad' D' w' := by
 have hlt := lt_of_block h.box
 have hn : ∀ i, i ≤ w.heap.size → ¬ foot d ad i := fun i hi hf => by
  rcases hf with hf | hf
  ·have := h.hd; omega
  ·have := h.nd i hf; omega
 refine ⟨by rw [hs.block _ hlt (hn _ (Nat.le_refl _))]; exact h.box, hw, h.low.trans (hs.below (Nat.le_of_lt hlt) (fun i hi => hn i (by omega))), h.hd, fun b hb => ?_⟩
 rcases hv b hb with h1 | h1
 ·exact h.nd b h1
 ·omega
theorem DR.next (h : DR w q ca cc pa pc ea ec d ad D wx) (hb : Below wx.heap.size wx w') : DR w q ca cc pa pc ea ec d ad D w' :=
 ⟨by rw [hb.block _ (lt_of_block h.box)]; exact h.box, h.wr.below hb, h.low.trans (hb.mono h.low.size), h.hd, h.nd⟩
theorem DR.apart (h : DR w q ca cc pa pc ea ec d ad D wx) {xo : Option Addr} {l : List Int} (hx : IntsAt w xo l) : Apart d ad xo l := fun h0 b hb hf => by
 obtain ⟨bb, off, rfl, hc⟩ := hx.lies h0
 have e : bb = b := by simpa [blockOf] using hb
 have h2 : bb < w.heap.size := lt_cell (hc 0 h0)
 rcases hf with hf | hf
 ·have := h.hd; omega
 ·have := h.nd b hf; omega
end
theorem DR.start {w wx : World} {q : Sb} {ca : Option Addr} {cc : Nat} {pa : Option Addr} {pc : Nat} {ea : Option Addr} {ec : Nat} (h : SX w q ca cc pa pc ea ec wx) (o : Obj) (hw : WrB (wx.alloc o) wx.heap.size none []) : DR w q ca cc pa pc ea ec wx.heap.size none [] (wx.alloc o) := by
 have hb : Below wx.heap.size wx (wx.alloc o) := (Below.refl _ _).alloc (Nat.le_refl _) _
 have h2 := h.next hb
 exact ⟨h2.box, hw, h2.below, lt_of_block h.box, fun b hb => by cases hb⟩
theorem enc_main (q : Sb) (v : Int) (l : List Int) (ca : Option Addr) (cc : Nat) (pa : Option Addr) (pc : Nat) (ea : Option Addr) (ec : Nat) (lo : Option Addr) (cap p : Nat) (ao : Option Addr) (B : List Nat) (h01 : Bits01 B) (hB : B.length ≤ 1200000000000) (w : World) (hq : SbAt w q ca pa ea) (hl : IntsAt w lo l) (hw : WrB w p ao B) (hS : okS q v l) : Calls Tryz.prog 23 #[.pointer (some ⟨p, 0, none⟩), subV q ca cc pa pc ea ec, .int .i64 v, .slice lo l.length cap] w fun e w' => e = .returned (.int .i64 0) ∧ ∃ ao', WrB w' p ao' (B ++ subB q v l) ∧ Stays (foot p ao) w w' ∧ Moved w.heap.size ao ao' := by
 have HBB : (true = true ↔ (q.k = 2 ∨ q.k = 3 → encR q.R l.length q.o (resN q (shrL l q.w.toNat)) = true)) := tt_iff hS.2.2.2.2
 have hok := hS.1
 have hfit : fitOk q v l := ⟨hS.2.1, hS.2.2.1, hS.2.2.2.1⟩
 have hroom := subB_room q v l hS
 have hs01 := subB_01 q v l
 have HSB : (putB (typN q) 7 ++ wstB q.w) ++ bodyB q v (shrL l q.w.toNat) = subB q v l := by unfold subB; rw [List.append_assoc]
 have KP : Hid (∀ wx d ad, Below w.heap.size w wx → WrB wx d ad ((putB (typN q) 7 ++ wstB q.w) ++ bodyB q v (shrL l q.w.toNat)) → Calls Tryz.prog 71 #[.pointer (some ⟨p, 0, none⟩), .pointer (some ⟨d, 0, none⟩)] wx fun e w' => e = .returned (.tuple #[]) ∧ ∃ ao', WrB w' p ao' (B ++ subB q v l) ∧ Stays (foot p ao) wx w' ∧ Moved wx.heap.size ao ao') := fun wx d ad hb hd => by
  rw [HSB] at hd
  exact s_pour p ao B d ad (subB q v l) h01 hs01 (by omega) wx (hw.below hb) hd
 have HFIN : Hid (∀ wx w8 ao8, Below w.heap.size w wx → WrB w8 p ao8 (B ++ subB q v l) → Stays (foot p ao) wx w8 → Moved wx.heap.size ao ao8 → WrB w8 p ao8 (B ++ subB q v l) ∧ Stays (foot p ao) w w8 ∧ Moved w.heap.size ao ao8) := fun wx w8 ao8 hb h1 h2 h3 =>
  ⟨h1, (Stays.of_below hb (foot p ao)).trans h2 (fun _ _ h => h), (Moved.refl _ _).trans h3 hb.size⟩
 clear hw hS h01 hroom hs01
 have hll := hl.len
 obtain ⟨hbl, hv, hwd, hkd⟩ := hok
 have hk := kd_kinds hkd
 unfold kinds at hk
 have KC : Hid (∀ wx a, a = subV q ca cc pa pc ea ec → Below w.heap.size w wx → Calls Tryz.prog 66 #[a, .int .i64 (l.length : Int), .int .i64 v] wx fun e w' => e = .returned (.int .i64 0) ∧ Below wx.heap.size wx w') := fun wx a ha hb => by rw [ha]; exact s_check q ca cc pa pc ea ec l.length v 0 (fun _ => rfl) (fun h => absurd ⟨hbl, hv, hwd, hkd⟩ h) wx (hq.below hb)
 have KF : Hid (∀ wx a, a = subV q ca cc pa pc ea ec → Below w.heap.size w wx → Calls Tryz.prog 67 #[a, .int .i64 v, .slice lo l.length cap] wx fun e w' => e = .returned (.bool true) ∧ Below wx.heap.size wx w') := fun wx a ha hb => by
  rw [ha]
  have h := s_fit q ca cc pa pc ea ec q.w.toNat (by omega) (by omega) l lo cap (v.toNat - 1) (by omega) true (tt_iff (by rw [show ((v.toNat - 1 : Nat) : Int) + 1 = v by omega]; exact hfit)) wx (hl.below hb)
  rw [show ((v.toNat - 1 : Nat) : Int) + 1 = v by omega] at h
  exact h
 have KH : Hid (∀ wx a d, a = subV q ca cc pa pc ea ec → WrB wx d none [] → Calls Tryz.prog 68 #[.pointer (some ⟨d, 0, none⟩), a] wx fun en w' => en = .returned (.tuple #[]) ∧ ∃ ao', WrB w' d ao' ([] ++ (putB (typN q) 7 ++ wstB q.w)) ∧ Stays (foot d none) wx w' ∧ Moved wx.heap.size none ao') := fun wx a d ha hw => by
  rw [ha]; exact s_head q ca cc pa pc ea ec (by omega) (by omega) (by omega) d none [] Bits01.nil (by simp) wx hw
 have KD : Hid (∀ wx, Below w.heap.size w wx → Calls Tryz.prog 70 #[.slice lo l.length cap, .int .i64 q.w] wx fun e w' => ∃ ga gc, e = .returned (.slice ga (shrL l q.w.toNat).length gc) ∧ Made wx ga gc (shrL l q.w.toNat) w') := fun wx hb => by
  have h := s_div l q.w.toNat (by omega) lo cap wx (hl.below hb)
  rw [show ((q.w.toNat : Nat) : Int) = q.w by omega] at h
  exact h
 have hsl := shr_len l q.w.toNat
 have HD0 : Hid ((putB (typN q) 7 ++ wstB q.w).length ≤ 100000000 ∧ Bits01 (putB (typN q) 7 ++ wstB q.w)) := by
  refine ⟨?_, (putB_01 _ _).append (wstB_01 _)⟩
  rw [List.length_append]
  have := putB_short (typN q) 7 (by decide)
  have := wstB_short q.w (by omega)
  omega
 have KB : Hid (∀ d wx, ∀ ad, DR w q ca cc pa pc ea ec d ad (putB (typN q) 7 ++ wstB q.w) wx → ∀ g mc, (shrL l q.w.toNat).length ≤ mc → IntsAt wx (some ⟨g, 0, none⟩) (shrL l q.w.toNat) → Apart d ad (some ⟨g, 0, none⟩) (shrL l q.w.toNat) → Calls Tryz.prog 69 #[.pointer (some ⟨d, 0, none⟩), subV q ca cc pa pc ea ec, .int .i64 (v - q.w), .slice (some ⟨g, 0, none⟩) (shrL l q.w.toNat).length mc] wx fun e w' => e = .returned (.bool true) ∧ ∃ ao', (true = true → WrB w' d ao' ((putB (typN q) 7 ++ wstB q.w) ++ bodyB q v (shrL l q.w.toNat))) ∧ Stays (foot d ad) wx w' ∧ Moved wx.heap.size ad ao') := fun d wx ad hD g mc hmc hm ham => by
  have hle := hD.low
  exact s_body q ca cc pa pc ea ec v (shrL l q.w.toNat) g mc hmc d ad _ HD0.out.2 HD0.out.1 wx (by rw [hsl]; exact ⟨hbl, hv, hwd, hkd⟩) (hq.below hle) hm hD.wr (hD.apart hq.C) (hD.apart hq.R.P) (hD.apart hq.R.E) ham true (by rw [hsl]; exact HBB)
 clear hq hl hfit hkd hk HBB HSB hsl
 have HA : Hid (SX w q ca cc pa pc ea ec (w.alloc (.cells (subC q ca cc pa pc ea ec) 27))) := SX.new w q ca cc pa pc ea ec
 go_enter Tryz.func23, Tryz.ntmps23
 go_upto_region 1 with fail
 generalize hwa : World.alloc _ _ = wa at *
 clear hwa
 obtain ⟨x0, x1, x2, x3, x4, x5, x6, x7, x8, x9⟩ := sub_cells HA.out.box
 go_wp2_with fail
 refine (KC.out _ _ (by simp []) HA.out.below).mono ?_
 rintro e wx_HA0 ⟨rfl, hb⟩
 have HA0 : Hid (SX w q ca cc pa pc ea ec wx_HA0) := HA.out.next hb
 clear hb HA x0 x1 x2 x3 x4 x5 x6 x7 x8 x9
 obtain ⟨x0, x1, x2, x3, x4, x5, x6, x7, x8, x9⟩ := sub_cells HA0.out.box
 go_wp2_with fail
 refine (KF.out _ _ (by simp) HA0.out.below).mono ?_
 rintro e w2 ⟨rfl, hb⟩
 have HA1 : Hid (SX w q ca cc pa pc ea ec w2) := HA0.out.next hb
 clear hb HA0 x0 x1 x2 x3 x4 x5 x6 x7 x8 x9
 obtain ⟨x0, x1, x2, x3, x4, x5, x6, x7, x8, x9⟩ := sub_cells HA1.out.box
 have kn := new_spec w2
 go_wp2_with fail
 refine kn.mono ?_
 rintro e w3 ⟨rfl, hw3, ew3⟩
 have D3 : Hid (DR w q ca cc pa pc ea ec w2.heap.size none [] w3) := by rw [ew3] at hw3 ⊢; exact DR.start HA1.out _ hw3
 clear kn ew3 hw3 HA1 x0 x1 x2 x3 x4 x5 x6 x7 x8 x9
 generalize w2.heap.size = d at *
 obtain ⟨x0, x1, x2, x3, x4, x5, x6, x7, x8, x9⟩ := sub_cells D3.out.box
 go_wp2_with fail
 refine (KH.out _ _ _ (by simp) D3.out.wr).mono ?_
 rintro e w5 ⟨rfl, ad5, hw5, hs5, hv5⟩
 have D5 : Hid (DR w q ca cc pa pc ea ec d ad5 (putB (typN q) 7 ++ wstB q.w) w5) := D3.out.put hs5 hv5 hw5
 have D5d : Hid (DR w q ca cc pa pc ea ec d ad5 (putB (typN q) 7 ++ wstB q.w) w5.drew) := D5.out.next ⟨rfl, rfl, rfl, Nat.le_refl _, fun _ _ => rfl⟩
 clear hw5 hs5 hv5 D3 D5 KH x0 x1 x2 x3 x4 x5 x6 x7 x8 x9
 go_wp2_with fail
 refine wp_region_held_drew (S := fun wx => wx.heap[w.heap.size]? = some (.cells (subC q ca cc pa pc ea ec) 27 (0, 0))) (by kernel_rfl) D5d.out.box (fun hS => ?_)
 refine wpAnyH_take (i := 0) (v := .pointer (some ⟨d, 0, none⟩)) rfl (by kernel_rfl) (by kernel_rfl) (by kernel_rfl) (fun _ _ _ h => h) (Or.inl ⟨by rfl, fun w hSw => by go_simp⟩) hS ?_
 simp only [Act.put, List.getElem_toArray, List.getElem_cons_succ, List.getElem_cons_zero, List.setIfInBounds_toArray, List.set_cons_zero, List.set_cons_succ]
 refine wpAnyH_take (i := 1) (v := subV q ca cc pa pc ea ec) rfl (by kernel_rfl) (by kernel_rfl) (by kernel_rfl) (fun _ _ _ h => h) (Or.inl ⟨by rfl, fun w hSw => by obtain ⟨x0, x1, x2, x3, x4, x5, x6, x7, x8, x9⟩ := sub_cells hSw; go_simp⟩) hS ?_
 simp only [Act.put, List.getElem_toArray, List.getElem_cons_succ, List.getElem_cons_zero, List.setIfInBounds_toArray, List.set_cons_zero, List.set_cons_succ]
 refine wpAnyH_take (i := 2) (v := .int .i64 v) rfl (by kernel_rfl) (by kernel_rfl) (by kernel_rfl) (fun _ _ _ h => h) (Or.inl ⟨by rfl, fun w hSw => by go_simp⟩) hS ?_
 simp only [Act.put, List.getElem_toArray, List.getElem_cons_succ, List.getElem_cons_zero, List.setIfInBounds_toArray, List.set_cons_zero, List.set_cons_succ]
 refine wpAnyH_take (i := 3) (v := .pointer (some ⟨w.heap.size, 2, none⟩)) rfl (by kernel_rfl) (by kernel_rfl) (by kernel_rfl) (fun _ _ _ h => h) (Or.inl ⟨by rfl, fun w hSw => by go_simp⟩) hS ?_
 simp only [Act.put, List.getElem_toArray, List.getElem_cons_succ, List.getElem_cons_zero, List.setIfInBounds_toArray, List.set_cons_zero, List.set_cons_succ]
 refine wpAnyH_take (i := 4) (v := .int .i64 q.w) rfl (by kernel_rfl) (by kernel_rfl) (by kernel_rfl) (fun _ _ _ h => h) (Or.inl ⟨by rfl, fun w hSw => by obtain ⟨x0, x1, x2, x3, x4, x5, x6, x7, x8, x9⟩ := sub_cells hSw; go_simp⟩) hS ?_
 simp only [Act.put, List.getElem_toArray, List.getElem_cons_succ, List.getElem_cons_zero, List.setIfInBounds_toArray, List.set_cons_zero, List.set_cons_succ]
 refine wpAnyH_take (i := 5) (v := .int .i64 (v - q.w)) rfl (by kernel_rfl) (by kernel_rfl) (by kernel_rfl) (fun _ _ _ h => h) (Or.inl ⟨by rfl, fun w hSw => by go_simp; rw [IntKind.wrap_i64]; omega⟩) hS ?_
 simp only [Act.put, List.getElem_toArray, List.getElem_cons_succ, List.getElem_cons_zero, List.setIfInBounds_toArray, List.set_cons_zero, List.set_cons_succ]
 refine wpAnyH_take (i := 6) (v := .slice lo l.length cap) rfl (by kernel_rfl) (by kernel_rfl) (by kernel_rfl) (fun _ _ _ h => h) (Or.inl ⟨by rfl, fun w hSw => by go_simp⟩) hS ?_
 simp only [Act.put, List.getElem_toArray, List.getElem_cons_succ, List.getElem_cons_zero, List.setIfInBounds_toArray, List.set_cons_zero, List.set_cons_succ]
 refine wpAnyH_take (i := 7) (v := .pointer (some ⟨w.heap.size, 2, none⟩)) rfl (by kernel_rfl) (by kernel_rfl) (by kernel_rfl) (fun _ _ _ h => h) (Or.inl ⟨by rfl, fun w hSw => by go_simp⟩) hS ?_
 simp only [Act.put, List.getElem_toArray, List.getElem_cons_succ, List.getElem_cons_zero, List.setIfInBounds_toArray, List.set_cons_zero, List.set_cons_succ]
 refine wpAnyH_take (i := 8) (v := .int .i64 q.w) rfl (by kernel_rfl) (by kernel_rfl) (by kernel_rfl) (fun _ _ _ h => h) (Or.inl ⟨by rfl, fun w hSw => by obtain ⟨x0, x1, x2, x3, x4, x5, x6, x7, x8, x9⟩ := sub_cells hSw; go_simp⟩) hS ?_
 simp only [Act.put, List.getElem_toArray, List.getElem_cons_succ, List.getElem_cons_zero, List.setIfInBounds_toArray, List.set_cons_zero, List.set_cons_succ]
 refine wpAnyH_ready (rs := [9]) (by kernel_rfl) (by simp) ?_
 refine AllReadyH.cons rfl (fun K hK => ?_) AllReadyH.nil
 go_simp
 refine (KD.out _ D5d.out.low).mono ?_
 rintro e w6 ⟨ga, gc, rfl, hmd⟩
 have D6 := D5d.out.next hmd.below
 obtain ⟨g6, rfl, hg6, hrow⟩ := hmd.at_
 have kb := KB.out d w6 ad5 D6 g6 gc hmd.cap_ hmd.ints (apart_made hmd D5d.out.wr)
 clear hrow
 refine hK.out _ _ D6.box (fun hS6 => ?_)
 clear hK K KB KD
 try simp only [Act.put, List.getElem_toArray, List.getElem_cons_succ, List.getElem_cons_zero, List.setIfInBounds_toArray, List.set_cons_zero, List.set_cons_succ]
 refine wpAnyH_ready (rs := [10]) (by kernel_rfl) (by simp) ?_
 refine AllReadyH.cons rfl (fun K hK => ?_) AllReadyH.nil
 go_simp
 refine kb.mono ?_
 rintro e w7 ⟨rfl, ad7, hwr7, hst7, hmv7⟩
 have HW7 : Hid (DR w q ca cc pa pc ea ec d ad7 ((putB (typN q) 7 ++ wstB q.w) ++ bodyB q v (shrL l q.w.toNat)) w7) := D6.put hst7 hmv7 (hwr7 (by trivial))
 refine hK.out _ _ HW7.out.box (fun hS8 => ?_)
 clear hK K kb hwr7 hst7 hmv7 D6 D5d hmd hg6
 try simp only [Act.put, List.getElem_toArray, List.getElem_cons_succ, List.getElem_cons_zero, List.setIfInBounds_toArray, List.set_cons_zero, List.set_cons_succ]
 refine wpAnyH_take (i := 11) (v := .bool false) rfl (by kernel_rfl) (by kernel_rfl) (by kernel_rfl) (fun _ _ _ h => h) (Or.inl ⟨by rfl, fun w hSw => by go_simp⟩) hS8 ?_
 simp only [Act.put, List.getElem_toArray, List.getElem_cons_succ, List.getElem_cons_zero, List.setIfInBounds_toArray, List.set_cons_zero, List.set_cons_succ]
 refine wpAnyH_done (by kernel_rfl) ?_ _
 have kp := KP.out w7 d ad7 HW7.out.low HW7.out.wr
 clear KP HD0
 go_wp2_with fail
 refine kp.mono ?_
 rintro e w8 ⟨rfl, ao8, hw8, hs8, hv8⟩
 have HF : Hid (WrB w8 p ao8 (B ++ subB q v l) ∧ Stays (foot p ao) w w8 ∧ Moved w.heap.size ao ao8) := HFIN.out w7 w8 ao8 HW7.out.low hw8 hs8 hv8
 clear hw8 hs8 hv8 HW7 kp
 go_wp2_with fail
 go_ret
 exact ⟨rfl, ao8, HF.out.1, HF.out.2.1, HF.out.2.2⟩
theorem set10_a {wx : World} (n : Nat) (v0 v1 v2 v3 v4 v5 v6 v7 v8 v9 : Value) {a0 a1 a2 a3 a4 a5 a6 a7 a8 a9 : Value} {t : TypeId} (h : wx.heap[n]? = some (.cells #[a0, a1, a2, a3, a4, a5, a6, a7, a8, a9] t (0, 0))) : ((((((((((wx.setCell ⟨n, 0, none⟩ v0).setCell ⟨n, 1, none⟩ v1).setCell ⟨n, 2, none⟩ v2).setCell ⟨n, 3, none⟩ v3).setCell ⟨n, 4, none⟩ v4).setCell ⟨n, 5, none⟩ v5).setCell ⟨n, 6, none⟩ v6).setCell ⟨n, 7, none⟩ v7).setCell ⟨n, 8, none⟩ v8).setCell ⟨n, 9, none⟩ v9).heap[n]? = some (.cells #[v0, v1, v2, v3, v4, v5, v6, v7, v8, v9] t (0, 0)) := by
 rw [block_setCell _ _ _ _ _ _ (block_setCell _ _ _ _ _ _ (block_setCell _ _ _ _ _ _ (block_setCell _ _ _ _ _ _ (block_setCell _ _ _ _ _ _ (block_setCell _ _ _ _ _ _ (block_setCell _ _ _ _ _ _ (block_setCell _ _ _ _ _ _ (block_setCell _ _ _ _ _ _ (block_setCell _ _ _ _ _ _ h)))))))))]
 simp only [List.setIfInBounds_toArray, List.set_cons_zero, List.set_cons_succ]
theorem set10_b {wx : World} (n : Nat) (v0 v1 v2 v3 v4 v5 v6 v7 v8 v9 : Value) (w : World) (hn : w.heap.size ≤ n) (h : Below w.heap.size w wx) : Below w.heap.size w ((((((((((wx.setCell ⟨n, 0, none⟩ v0).setCell ⟨n, 1, none⟩ v1).setCell ⟨n, 2, none⟩ v2).setCell ⟨n, 3, none⟩ v3).setCell ⟨n, 4, none⟩ v4).setCell ⟨n, 5, none⟩ v5).setCell ⟨n, 6, none⟩ v6).setCell ⟨n, 7, none⟩ v7).setCell ⟨n, 8, none⟩ v8).setCell ⟨n, 9, none⟩ v9) :=
 (((((((((h.setCell hn _).setCell hn _).setCell hn _).setCell hn _).setCell hn _).setCell hn _).setCell hn _).setCell hn _).setCell hn _).setCell hn _
theorem set10_d {wx : World} (n : Nat) (v0 v1 v2 v3 v4 v5 v6 v7 v8 v9 : Value) (j : Nat) (h0 : j ≠ n) : ((((((((((wx.setCell ⟨n, 0, none⟩ v0).setCell ⟨n, 1, none⟩ v1).setCell ⟨n, 2, none⟩ v2).setCell ⟨n, 3, none⟩ v3).setCell ⟨n, 4, none⟩ v4).setCell ⟨n, 5, none⟩ v5).setCell ⟨n, 6, none⟩ v6).setCell ⟨n, 7, none⟩ v7).setCell ⟨n, 8, none⟩ v8).setCell ⟨n, 9, none⟩ v9).heap[j]? = wx.heap[j]? := by
 rw [Below.heap_setCell _ _ _ j h0, Below.heap_setCell _ _ _ j h0, Below.heap_setCell _ _ _ j h0, Below.heap_setCell _ _ _ j h0, Below.heap_setCell _ _ _ j h0, Below.heap_setCell _ _ _ j h0, Below.heap_setCell _ _ _ j h0, Below.heap_setCell _ _ _ j h0, Below.heap_setCell _ _ _ j h0, Below.heap_setCell _ _ _ j h0]
theorem row_frozen {w : World} {g : Nat} {cs : Array Value} {t : TypeId} (h : w.heap[g]? = some (.cells cs t (0, 0))) (i : Nat) : w.frozen? ⟨g, i, none⟩ = false := by simp [World.frozen?, h]
theorem info_Sub : (Tryz.prog.info? 27).map (·.size) = some 10 := by kernel_rfl
def wst (s : ByteArray) (a : Nat) : Option (Int × Nat) :=
 if getE s a 1 = 0 then (if getV s a 1 = 1 then (if unaE s (getA s a 1) = 0 then some (unaV s (getA s a 1) + 1, unaA s (getA s a 1)) else none) else some (0, getA s a 1)) else none
theorem info_coding : (Tryz.prog.info? 63).map (·.size) = some 3 := by kernel_rfl
theorem z_lpc (C : List Int) (ca : Option Addr) (cc : Nat) (w : World) : Calls Tryz.prog 189 #[.slice ca C.length cc] w fun e w' => e = .returned (.agg (subC (lpS 0 C) ca cc none 0 none 0)) ∧ Below w.heap.size w w' := by
 go_enter Tryz.func189, Tryz.ntmps189
 go_wp2_with fail
 refine bodyPost_ret (v := .agg #[.int .i64 3, .int .i64 (C.length : Int), .int .i64 0, .int .i64 7, .int .i64 5, .slice ca C.length cc, .int .i64 0, .int .i64 0, .slice none 0 0, .slice none 0 0]) ?_ rfl ⟨rfl, (Below.refl _ _).alloc (Nat.le_refl _) _⟩
 rw [results_one rfl]
 have hld := run_loadVar_row (P := Tryz.prog) (w.alloc (.cells #[.int .i64 3, .int .i64 (C.length : Int), .int .i64 0, .int .i64 7, .int .i64 5, .slice ca C.length cc, .int .i64 0, .int .i64 0, .slice none 0 0, .slice none 0 0] 27)) (w.heap.size) 27 27 #[.int .i64 3, .int .i64 (C.length : Int), .int .i64 0, .int .i64 7, .int .i64 5, .slice ca C.length cc, .int .i64 0, .int .i64 0, .slice none 0 0, .slice none 0 0] (0, 0) _ (heap_alloc_new _ _) Tryz.underlying27 rfl info_Sub
 simp [asAddr, Result.andThen, hld]
theorem z_coefsBits (q : Sb) (ca : Option Addr) (cc : Nat) (pa : Option Addr) (pc : Nat) (ea : Option Addr) (ec : Nat) (r : Int) (hr : r = if q.k = 2 then 0 else 9 + q.o * q.p) (hr2 : I64 r) (hop : I64 (q.o * q.p)) (w : World) : Calls Tryz.prog 145 #[subV q ca cc pa pc ea ec] w fun e w' => e = .returned (.int .i64 r) ∧ Below w.heap.size w w' := by
 have HB : Hid (Below w.heap.size w (w.alloc (.cells (subC q ca cc pa pc ea ec) 27))) := (Below.refl _ _).alloc (Nat.le_refl _) _
 obtain ⟨x0, x1, x2, x3, x4, x5, x6, x7, x8, x9⟩ := sub_cells (heap_alloc_new w (.cells (subC q ca cc pa pc ea ec) 27))
 by_cases k2 : q.k = 2
 ·have hb : (q.k == 2) = true := by rw [beq_iff_eq]; exact k2
  rw [if_pos k2] at hr
  clear k2 hr2 hop
  subst hr
  go_enter Tryz.func145, Tryz.ntmps145
  go_upto_region 1 with fail
  generalize hwa : World.alloc _ _ = wa at *
  clear hwa
  go_wp2_with fail
  go_ret
  exact ⟨rfl, HB.out⟩
 ·have hb : (q.k == 2) = false := by rw [beq_eq_false_iff_ne]; exact k2
  rw [if_neg k2] at hr
  clear k2
  have HR : Hid (wrap64 (9 + wrap64 (q.o * q.p)) = r) := by show _ = _; rw [wid _ hop, ← hr]; exact wid _ hr2
  clear hr hr2 hop
  go_enter Tryz.func145, Tryz.ntmps145
  go_upto_region 1 with fail
  generalize hwa : World.alloc _ _ = wa at *
  clear hwa
  go_wp2_with fail
  go_ret
  exact ⟨by rw [← HR.out]; rfl, HB.out⟩
theorem z_codingOf (q : Sb) (ca : Option Addr) (cc : Nat) (pa : Option Addr) (pc : Nat) (ea : Option Addr) (ec : Nat) (n : Int) (hr2 : I64 (8 + q.w + n)) (hw : I64 (8 + q.w)) (w : World) : Calls Tryz.prog 141 #[subV q ca cc pa pc ea ec, .int .i64 n] w fun e w' => ∃ g, e = .returned (.agg #[.int .i64 0, .slice (some ⟨g, 0, none⟩) 1 1, .int .i64 (8 + q.w + n)]) ∧ w'.heap[g]? = some (.cells (subC q ca cc pa pc ea ec) 27 (0, 0)) ∧ w.heap.size ≤ g ∧ Below w.heap.size w w' := by
 obtain ⟨x0, x1, x2, x3, x4, x5, x6, x7, x8, x9⟩ := sub_cells (heap_alloc_new w (.cells (subC q ca cc pa pc ea ec) 27))
 have h2 : (((w.alloc (.cells (subC q ca cc pa pc ea ec) 27)).alloc (.cells #[.int .i64 0, .slice (some ⟨w.heap.size + 1 + 1, 0, none⟩) 1 1, .int .i64 (8 + q.w + n)] 63)).alloc (.cells #[.int .i64 q.k, .int .i64 q.o, .int .i64 q.w, .int .i64 q.p, .int .i64 q.h, .slice ca q.C.length cc, .int .i64 q.R.m, .int .i64 q.R.o, .slice pa q.R.P.length pc, .slice ea q.R.E.length ec] 27)).heap[w.heap.size + 1]? = some (.cells #[.int .i64 0, .slice (some ⟨w.heap.size + 1 + 1, 0, none⟩) 1 1, .int .i64 (8 + q.w + n)] 63 (0, 0)) := by
  have hh := heap_two (w.alloc (.cells (subC q ca cc pa pc ea ec) 27)) (.cells #[.int .i64 0, .slice (some ⟨w.heap.size + 1 + 1, 0, none⟩) 1 1, .int .i64 (8 + q.w + n)] 63) (.cells #[.int .i64 q.k, .int .i64 q.o, .int .i64 q.w, .int .i64 q.p, .int .i64 q.h, .slice ca q.C.length cc, .int .i64 q.R.m, .int .i64 q.R.o, .slice pa q.R.P.length pc, .slice ea q.R.E.length ec] 27)
  rw [show (w.alloc (.cells (subC q ca cc pa pc ea ec) 27)).heap.size = w.heap.size + 1 from by simp] at hh
  exact hh
 have h3 : (((w.alloc (.cells (subC q ca cc pa pc ea ec) 27)).alloc (.cells #[.int .i64 0, .slice (some ⟨w.heap.size + 1 + 1, 0, none⟩) 1 1, .int .i64 (8 + q.w + n)] 63)).alloc (.cells #[.int .i64 q.k, .int .i64 q.o, .int .i64 q.w, .int .i64 q.p, .int .i64 q.h, .slice ca q.C.length cc, .int .i64 q.R.m, .int .i64 q.R.o, .slice pa q.R.P.length pc, .slice ea q.R.E.length ec] 27)).heap[w.heap.size + 1 + 1]? = some (.cells #[.int .i64 q.k, .int .i64 q.o, .int .i64 q.w, .int .i64 q.p, .int .i64 q.h, .slice ca q.C.length cc, .int .i64 q.R.m, .int .i64 q.R.o, .slice pa q.R.P.length pc, .slice ea q.R.E.length ec] 27 (0, 0)) := by
  have hh := heap_alloc_new ((w.alloc (.cells (subC q ca cc pa pc ea ec) 27)).alloc (.cells #[.int .i64 0, .slice (some ⟨w.heap.size + 1 + 1, 0, none⟩) 1 1, .int .i64 (8 + q.w + n)] 63)) (.cells #[.int .i64 q.k, .int .i64 q.o, .int .i64 q.w, .int .i64 q.p, .int .i64 q.h, .slice ca q.C.length cc, .int .i64 q.R.m, .int .i64 q.R.o, .slice pa q.R.P.length pc, .slice ea q.R.E.length ec] 27)
  rw [show ((w.alloc (.cells (subC q ca cc pa pc ea ec) 27)).alloc (.cells #[.int .i64 0, .slice (some ⟨w.heap.size + 1 + 1, 0, none⟩) 1 1, .int .i64 (8 + q.w + n)] 63)).heap.size = w.heap.size + 1 + 1 from by simp] at hh
  exact hh
 have HH : Hid ((((w.alloc (.cells (subC q ca cc pa pc ea ec) 27)).alloc (.cells #[.int .i64 0, .slice (some ⟨w.heap.size + 1 + 1, 0, none⟩) 1 1, .int .i64 (8 + q.w + n)] 63)).alloc (.cells #[.int .i64 q.k, .int .i64 q.o, .int .i64 q.w, .int .i64 q.p, .int .i64 q.h, .slice ca q.C.length cc, .int .i64 q.R.m, .int .i64 q.R.o, .slice pa q.R.P.length pc, .slice ea q.R.E.length ec] 27)).heap[w.heap.size + 1]? = some (.cells #[.int .i64 0, .slice (some ⟨w.heap.size + 1 + 1, 0, none⟩) 1 1, .int .i64 (8 + q.w + n)] 63 (0, 0)) ∧ (((w.alloc (.cells (subC q ca cc pa pc ea ec) 27)).alloc (.cells #[.int .i64 0, .slice (some ⟨w.heap.size + 1 + 1, 0, none⟩) 1 1, .int .i64 (8 + q.w + n)] 63)).alloc (.cells #[.int .i64 q.k, .int .i64 q.o, .int .i64 q.w, .int .i64 q.p, .int .i64 q.h, .slice ca q.C.length cc, .int .i64 q.R.m, .int .i64 q.R.o, .slice pa q.R.P.length pc, .slice ea q.R.E.length ec] 27)).heap[w.heap.size + 1 + 1]? = some (.cells #[.int .i64 q.k, .int .i64 q.o, .int .i64 q.w, .int .i64 q.p, .int .i64 q.h, .slice ca q.C.length cc, .int .i64 q.R.m, .int .i64 q.R.o, .slice pa q.R.P.length pc, .slice ea q.R.E.length ec] 27 (0, 0)) ∧ Below w.heap.size w (((w.alloc (.cells (subC q ca cc pa pc ea ec) 27)).alloc (.cells #[.int .i64 0, .slice (some ⟨w.heap.size + 1 + 1, 0, none⟩) 1 1, .int .i64 (8 + q.w + n)] 63)).alloc (.cells #[.int .i64 q.k, .int .i64 q.o, .int .i64 q.w, .int .i64 q.p, .int .i64 q.h, .slice ca q.C.length cc, .int .i64 q.R.m, .int .i64 q.R.o, .slice pa q.R.P.length pc, .slice ea q.R.E.length ec] 27))) := ⟨h2, h3, ((((Below.refl _ _).alloc (Nat.le_refl _) _).alloc (by simp) _).alloc (by simp; omega) _)⟩
 clear h2 h3
 go_enter Tryz.func141, Tryz.ntmps141
 go_wp2_with fail
 clear x0 x1 x2 x3 x4 x5 x6 x7 x8 x9
 generalize hwf : World.alloc _ _ = wf at *
 clear hwf
 refine bodyPost_ret (v := .agg #[.int .i64 0, .slice (some ⟨w.heap.size + 1 + 1, 0, none⟩) 1 1, .int .i64 (8 + q.w + n)]) ?_ rfl ⟨w.heap.size + 1 + 1, rfl, HH.out.2.1, by omega, HH.out.2.2⟩
 rw [results_one rfl]
 have hld := run_loadVar_row (P := Tryz.prog) (wf) (w.heap.size + 1) 63 63 #[.int .i64 0, .slice (some ⟨w.heap.size + 1 + 1, 0, none⟩) 1 1, .int .i64 (8 + q.w + n)] (0, 0) _ HH.out.1 Tryz.underlying63 rfl info_coding
 simp [asAddr, Result.andThen, hld]
def lfR (q : Sb) (m : List Int) : Option (List Int) := if q.k = 2 then fixR q.o m else lpcR q.C q.h m
theorem z_leftOver (q : Sb) (ca : Option Addr) (cc : Nat) (pa : Option Addr) (pc : Nat) (ea : Option Addr) (ec : Nat) (m : List Int) (la : Option Addr) (lc : Nat) (hlc : m.length ≤ lc) (w : World) (hC : IntsAt w ca q.C) (hm : IntsAt w la m) : Calls Tryz.prog 143 #[subV q ca cc pa pc ea ec, .slice la m.length lc] w (RetM (lfR q m) w) := by
 have HB : Hid (Below w.heap.size w (w.alloc (.cells (subC q ca cc pa pc ea ec) 27))) := (Below.refl _ _).alloc (Nat.le_refl _) _
 obtain ⟨x0, x1, x2, x3, x4, x5, x6, x7, x8, x9⟩ := sub_cells (heap_alloc_new w (.cells (subC q ca cc pa pc ea ec) 27))
 have HF : Hid (∀ wx, Below w.heap.size w wx → Calls Tryz.prog 177 #[.int .i64 q.o, .slice la m.length lc] wx (RetM (fixR q.o m) wx)) := fun wx hb => qfixed_spec q.o m la lc hlc wx (hm.below hb)
 have HP : Hid (∀ wx, Below w.heap.size w wx → Calls Tryz.prog 178 #[.slice ca q.C.length cc, .int .i64 q.h, .slice la m.length lc] wx (RetM (lpcR q.C q.h m) wx)) := fun wx hb => qlpc_spec q.C m q.h ca la cc lc hlc wx (hC.below hb) (hm.below hb)
 clear hC hm
 unfold lfR
 by_cases k2 : q.k = 2
 ·rw [if_pos k2]
  have hb : (q.k == 2) = true := by rw [beq_iff_eq]; exact k2
  clear k2
  have k := HF.out
  clear HF HP
  cases hR : fixR q.o m with
  | none =>
   rw [hR] at k
   clear hR
   go_enter Tryz.func143, Tryz.ntmps143
   go_upto_region 1 with fail
   generalize hwa : World.alloc _ _ = wa at *
   clear hwa
   go_wp2_with fail
   refine (k wa HB.out).mono ?_
   rintro e w2 ⟨rfl, hb2⟩
   have HB2 : Hid (Below w.heap.size w w2) := HB.out.trans (hb2.mono HB.out.size)
   clear hb2
   go_wp2_with fail
   go_ret2
   exact retM_none rfl rfl HB2.out
  | some M =>
   rw [hR] at k
   clear hR
   go_enter Tryz.func143, Tryz.ntmps143
   go_upto_region 1 with fail
   generalize hwa : World.alloc _ _ = wa at *
   clear hwa
   go_wp2_with fail
   refine (k wa HB.out).mono ?_
   rintro e w2 ⟨la2, lc2, rfl, hm2⟩
   have HM2 : Hid (Made w la2 lc2 M w2) := hm2.up HB.out
   clear hm2
   go_wp2_with fail
   go_ret2
   exact retM_some rfl rfl HM2.out
 ·rw [if_neg k2]
  have hb : (q.k == 2) = false := by rw [beq_eq_false_iff_ne]; exact k2
  clear k2
  have k := HP.out
  clear HF HP
  cases hR : lpcR q.C q.h m with
  | none =>
   rw [hR] at k
   clear hR
   go_enter Tryz.func143, Tryz.ntmps143
   go_upto_region 1 with fail
   generalize hwa : World.alloc _ _ = wa at *
   clear hwa
   go_wp2_with fail
   refine (k wa HB.out).mono ?_
   rintro e w2 ⟨rfl, hb2⟩
   have HB2 : Hid (Below w.heap.size w w2) := HB.out.trans (hb2.mono HB.out.size)
   clear hb2
   go_wp2_with fail
   go_ret2
   exact retM_none rfl rfl HB2.out
  | some M =>
   rw [hR] at k
   clear hR
   go_enter Tryz.func143, Tryz.ntmps143
   go_upto_region 1 with fail
   generalize hwa : World.alloc _ _ = wa at *
   clear hwa
   go_wp2_with fail
   refine (k wa HB.out).mono ?_
   rintro e w2 ⟨la2, lc2, rfl, hm2⟩
   have HM2 : Hid (Made w la2 lc2 M w2) := hm2.up HB.out
   clear hm2
   go_wp2_with fail
   go_ret2
   exact retM_some rfl rfl HM2.out
theorem sub_info12 : ∃ i, Tryz.prog.info? 27 = some i ∧ i.zero = some (.agg (subC ⟨0, 0, 0, 0, 0, [], R00⟩ none 0 none 0 none 0)) ∧ i.size = 10 ∧ i.bytes = 128 := by
 have h : (Tryz.prog.info? 27).map (fun i => (i.zero, i.size, i.bytes)) = some (some (.agg (subC ⟨0, 0, 0, 0, 0, [], R00⟩ none 0 none 0 none 0)), 10, 128) := by kernel_rfl
 cases hq : Tryz.prog.info? 27 with
 | none => rw [hq] at h; cases h
 | some i =>
  rw [hq] at h
  simp only [Option.map_some, Option.some.injEq, Prod.mk.injEq] at h
  exact ⟨i, rfl, h.1, h.2.1, h.2.2⟩
theorem undSubs12 : Tryz.prog.underlying 39 = some (.slice 27) := by kernel_rfl
structure El where
 q : Sb
 ca : Option Addr
 cc : Nat
def elC (e : El) : List Value := (subC e.q e.ca e.cc none 0 none 0).toList
def rowC (L : List El) : List Value := L.flatMap elC
theorem rowC_app (L M : List El) : rowC (L ++ M) = rowC L ++ rowC M := by unfold rowC; rw [List.flatMap_append]
theorem rowC_one (e : El) : rowC [e] = elC e := by simp [rowC]
theorem elC_len (e : El) : (elC e).length = 10 := rfl
theorem rowC_one' (L : List El) : ∀ u ∈ rowC L, u.oneCell' = true := fun u hu => by
 unfold rowC at hu
 obtain ⟨e, _, h⟩ := List.mem_flatMap.1 hu
 unfold elC at h
 simp at h
 rcases h with h | h | h | h | h | h | h | h | h | h <;> (rw [h]; rfl)
theorem rowC_get (L : List El) (j i : Nat) (e : El) (hj : L[j]? = some e) (hi : i < 10) : (rowC L)[j * 10 + i]? = (elC e)[i]? := by
 induction L generalizing j with
 | nil => cases hj
 | cons x t ih =>
  have hx : rowC (x :: t) = elC x ++ rowC t := by simp [rowC]
  rw [hx]
  cases j with
  | zero =>
   rw [List.getElem?_cons_zero] at hj
   cases hj
   rw [Nat.zero_mul, Nat.zero_add, List.getElem?_append_left (by rw [elC_len]; exact hi)]
  | succ j =>
   rw [List.getElem?_cons_succ] at hj
   rw [List.getElem?_append_right (by rw [elC_len]; omega), elC_len, show (j + 1) * 10 + i - 10 = j * 10 + i by omega]
   exact ih j hj
structure TS (w : World) (v : Value) (L : List El) (X : World) : Prop where
 own : X.ownsRow w.heap.size 27 10 v L.length (rowC L)
 ints : ∀ e ∈ L, IntsAt X e.ca e.q.C
 apart : ∀ e ∈ L, 0 < e.q.C.length → ∀ b, blockOf e.ca = some b → w.heap.size ≤ b ∧ v.ownBlock ≠ some b
 below : Below w.heap.size w X
theorem TS.nil (w : World) : TS w (.slice none 0 0) [] w := ⟨World.ownsRow_nil _ _ _ _, fun e he => absurd he (by simp), fun e he => absurd he (by simp), Below.refl _ _⟩
theorem TS.low {w X X' : World} {v : Value} {L : List El} (h : TS w v L X) (hb : Below X.heap.size X X') : TS w v L X' := ⟨own_low h.own hb, fun e he => (h.ints e he).below hb, h.apart, h.below.trans (hb.mono h.below.size)⟩
theorem TS.shape {w X : World} {v : Value} {L : List El} (h : TS w v L X) : ∃ ao cap, v = .slice ao L.length cap := by
 obtain ⟨ao, cap, h1, _⟩ := owns_shape h.own
 exact ⟨ao, cap, h1⟩
theorem TS.push {w X w1 : World} {v : Value} {L M : List El} (h : TS w v L X) {g cap : Nat} (ho : w1.ownsRow w.heap.size 27 10 (.slice (some ⟨g, 0, none⟩) (L.length + M.length) cap) (L.length + M.length) (rowC L ++ rowC M)) (hg : X.grownBy w1 v.ownBlock) (hat : v.ownBlock = some g ∨ g = X.heap.size) (hM : ∀ e ∈ M, IntsAt X e.ca e.q.C ∧ (0 < e.q.C.length → ∀ b, blockOf e.ca = some b → w.heap.size ≤ b ∧ v.ownBlock ≠ some b)) : TS w (.slice (some ⟨g, 0, none⟩) (L.length + M.length) cap) (L ++ M) w1 := by
 have both : ∀ e ∈ L ++ M, IntsAt X e.ca e.q.C ∧ (0 < e.q.C.length → ∀ b, blockOf e.ca = some b → w.heap.size ≤ b ∧ v.ownBlock ≠ some b) := fun e he => by
  rcases List.mem_append.1 he with h1 | h1
  ·exact ⟨h.ints e h1, h.apart e h1⟩
  ·exact hM e h1
 refine ⟨by rw [List.length_append, rowC_app]; exact ho, fun e he => ?_, fun e he h0 b hb => ?_, h.below.trans ⟨hg.os, hg.tape, hg.output, hg.size, fun k hk => ?_⟩⟩
 ·obtain ⟨h1, h2⟩ := both e he
  refine ⟨h1.len, h1.num, fun h0 => ?_⟩
  obtain ⟨b, off, ea, hc⟩ := h1.lies h0
  refine ⟨b, off, ea, fun j hj => ?_⟩
  have h3 := hc j hj
  rw [World.cell?_of_block (w := X) (hg.block b (lt_cell h3) (fun e2 => (h2 h0 b (by rw [ea]; rfl)).2 e2.symm))]
  exact h3
 ·obtain ⟨h1, h2⟩ := both e he
  refine ⟨(h2 h0 b hb).1, fun e2 => ?_⟩
  have e3 : g = b := by simpa [Value.ownBlock] using e2
  rcases hat with h4 | h4
  ·exact (h2 h0 b hb).2 (by rw [h4, e3])
  ·obtain ⟨b', off, ea, hc⟩ := h1.lies h0
   have h7 : b' < X.heap.size := lt_cell (hc 0 h0)
   rw [ea] at hb
   have e5 : b' = b := by simpa [blockOf] using hb
   omega
 ·exact hg.block k (by have := h.below.size; omega) (fun e => by have := (h.own.lt k e.symm).1; omega)
end Go.Proofs.YthgpleelpeacjaaGreatDoor

/- Own text: the walks of mayHave and take. -/
import Derived.Test.YtfmpiidnemhijaaDoorQ13chk
namespace Go.Proofs.YtfmpiidnemhijaaDoor
open Go.RowKit
set_option linter.unusedSimpArgs false
set_option linter.unusedVariables false

/-- What is known of blocks as they are come to. -/
def Rw (w : World) (r : Nat) (c : Nat) (hc : Bool) : Prop := w.heap[r]? = some (.cells #[.int .i64 (c : Int), .bool hc] 70 (0, 0))
section
variable {w w' : World} {r c : Nat} {hc : Bool}
theorem Rw.c0 (h : Rw w r c hc) : w.cell? ⟨r, 0, none⟩ = some (.int .i64 (c : Int)) := by unfold Rw at h; simp [World.cell?, h]
theorem Rw.c1 (h : Rw w r c hc) : w.cell? ⟨r, 1, none⟩ = some (.bool hc) := by unfold Rw at h; simp [World.cell?, h]
theorem Rw.fz (h : Rw w r c hc) (j : Nat) : w.frozen? ⟨r, j, none⟩ = false := by unfold Rw at h; simp [World.frozen?, h]
theorem Rw.lt (h : Rw w r c hc) : r < w.heap.size := lt_of_block h
theorem Rw.keep (h : Rw w r c hc) (hb : w'.heap[r]? = w.heap[r]?) : Rw w' r c hc := by unfold Rw at h ⊢; rw [hb]; exact h
theorem Rw.low (h : Rw w r c hc) (hb : Below w.heap.size w w') : Rw w' r c hc := h.keep (hb.block _ h.lt)
theorem Rw.set0 (h : Rw w r c hc) (n : Nat) : Rw (w.setCell ⟨r, 0, none⟩ (.int .i64 (n : Int))) r n hc := by
  unfold Rw at h ⊢
  rw [block_setCell w r 0 _ _ _ h]
  simp
theorem Rw.set1 (h : Rw w r c hc) (b : Bool) : Rw (w.setCell ⟨r, 1, none⟩ (.bool b)) r c b := by
  unfold Rw at h ⊢
  rw [block_setCell w r 1 _ _ _ h]
  simp
end
theorem WidAt.stays {w w' : World} {S : Nat → Prop} (h : WidAt w) (hs : Stays S w w') (hS : ¬ S 0) : WidAt w' := by
  have hl := h.lt
  obtain ⟨t, fz, h⟩ := h
  exact ⟨t, fz, by rw [hs.block _ hl hS]; exact h⟩
def mayB (c : Nat) (hc : Bool) (ty : Int) : Bool := decide ((c = 0 ↔ ty = 0) ∧ ty ≤ 126 ∧ ¬ (hc = true ∧ ty = 4))
set_option maxRecDepth 20000 in
set_option maxHeartbeats 1600000 in
theorem mayHave_any (r c : Nat) (hc : Bool) (ty : Int) (w : World) (h : Rw w r c hc) :
    Calls Tryd.prog 52 #[.pointer (some ⟨r, 0, none⟩), .int .i64 ty] w fun e w' => e = .returned (.bool (mayB c hc ty)) ∧ w' = w := by
  have c0 := h.c0
  have c1 := h.c1
  clear h
  by_cases gc : c = 0
  · have bc : ((c : Int) == 0) = true := by rw [beq_iff_eq]; omega
    by_cases gt : ty = 0
    · have bt : (ty == 0) = true := by rw [beq_iff_eq]; exact gt
      have h0 : c = 0 ↔ ty = 0 := ⟨fun _ => gt, fun _ => gc⟩
      clear gc gt
      by_cases h1 : ty ≤ 126
      · cases hc
        · have HE : Hid (mayB c false ty = true) := decide_eq_true ⟨h0, h1, fun q => by cases q.1⟩
          clear h0
          go_enter Tryd.func52, Tryd.ntmps52
          go_wp2_with fail
          go_ret
          exact ⟨by rw [HE.out]; rfl, rfl⟩
        · by_cases h4 : ty = 4
          · have HE : Hid (mayB c true ty = false) := decide_eq_false (fun q => q.2.2 ⟨rfl, h4⟩)
            have hq4 : (ty == 4) = true := by rw [beq_iff_eq]; exact h4
            clear h0 h4
            go_enter Tryd.func52, Tryd.ntmps52
            go_wp2_with fail
            go_ret
            exact ⟨by rw [HE.out]; rfl, rfl⟩
          · have HE : Hid (mayB c true ty = true) := decide_eq_true ⟨h0, h1, fun q => h4 q.2⟩
            have hq4 : (ty == 4) = false := by rw [beq_eq_false_iff_ne]; exact h4
            clear h0 h4
            go_enter Tryd.func52, Tryd.ntmps52
            go_wp2_with fail
            go_ret
            exact ⟨by rw [HE.out]; rfl, rfl⟩
      · have HE : Hid (mayB c hc ty = false) := decide_eq_false (fun q => h1 q.2.1)
        have h1 : 126 < ty := by omega
        clear h0
        go_enter Tryd.func52, Tryd.ntmps52
        go_wp2_with fail
        go_ret
        exact ⟨by rw [HE.out]; rfl, rfl⟩
    · have bt : (ty == 0) = false := by rw [beq_eq_false_iff_ne]; exact gt
      have HE : Hid (mayB c hc ty = false) := decide_eq_false (fun q => gt (q.1.1 gc))
      clear gc gt
      go_enter Tryd.func52, Tryd.ntmps52
      go_wp2_with fail
      go_ret
      exact ⟨by rw [HE.out]; rfl, rfl⟩
  · have bc : ((c : Int) == 0) = false := by rw [beq_eq_false_iff_ne]; omega
    by_cases gt : ty = 0
    · have bt : (ty == 0) = true := by rw [beq_iff_eq]; exact gt
      have HE : Hid (mayB c hc ty = false) := decide_eq_false (fun q => gc (q.1.2 gt))
      clear gc gt
      go_enter Tryd.func52, Tryd.ntmps52
      go_wp2_with fail
      go_ret
      exact ⟨by rw [HE.out]; rfl, rfl⟩
    · have bt : (ty == 0) = false := by rw [beq_eq_false_iff_ne]; exact gt
      have h0 : c = 0 ↔ ty = 0 := ⟨fun q => absurd q gc, fun q => absurd q gt⟩
      clear gc gt
      by_cases h1 : ty ≤ 126
      · cases hc
        · have HE : Hid (mayB c false ty = true) := decide_eq_true ⟨h0, h1, fun q => by cases q.1⟩
          clear h0
          go_enter Tryd.func52, Tryd.ntmps52
          go_wp2_with fail
          go_ret
          exact ⟨by rw [HE.out]; rfl, rfl⟩
        · by_cases h4 : ty = 4
          · have HE : Hid (mayB c true ty = false) := decide_eq_false (fun q => q.2.2 ⟨rfl, h4⟩)
            have hq4 : (ty == 4) = true := by rw [beq_iff_eq]; exact h4
            clear h0 h4
            go_enter Tryd.func52, Tryd.ntmps52
            go_wp2_with fail
            go_ret
            exact ⟨by rw [HE.out]; rfl, rfl⟩
          · have HE : Hid (mayB c true ty = true) := decide_eq_true ⟨h0, h1, fun q => h4 q.2⟩
            have hq4 : (ty == 4) = false := by rw [beq_eq_false_iff_ne]; exact h4
            clear h0 h4
            go_enter Tryd.func52, Tryd.ntmps52
            go_wp2_with fail
            go_ret
            exact ⟨by rw [HE.out]; rfl, rfl⟩
      · have HE : Hid (mayB c hc ty = false) := decide_eq_false (fun q => h1 q.2.1)
        have h1 : 126 < ty := by omega
        clear h0
        go_enter Tryd.func52, Tryd.ntmps52
        go_wp2_with fail
        go_ret
        exact ⟨by rw [HE.out]; rfl, rfl⟩
/-- A step of a row: its error; where there is none, what it knows then. -/
def RtP (w : World) (r c : Nat) (hc : Bool) (b : Blk) (e : Ending) (w' : World) : Prop := e = .returned (.int .i64 (rtE c hc b)) ∧ Stays (only r) w w' ∧ (rtE c hc b = 0 → Rw w' r (c + 1) (cmt hc b))
set_option maxRecDepth 20000 in
set_option maxHeartbeats 3200000 in
theorem rtake_any (r c : Nat) (hc : Bool) (hcl : c ≤ 1024) (b : Blk) (hs : b.body.size ≤ 140737488351232) (w : World) (hW : WidAt w) (hr : 0 < r) (h : Rw w r c hc) :
    Calls Tryd.prog 31 #[.pointer (some ⟨r, 0, none⟩), blkV b] w fun e w' => RtP w r c hc b e w' := by
  obtain ⟨wa, hwa⟩ : ∃ wa, wa = w.alloc (.cells (blkC b) 36) := ⟨_, rfl⟩
  have hB0 : Below w.heap.size w wa := by rw [hwa]; exact (Below.refl _ _).alloc (Nat.le_refl _) _
  have hbx : wa.heap[w.heap.size]? = some (.cells (blkC b) 36 (0, 0)) := by rw [hwa]; exact heap_alloc_new _ _
  have x0 := (blk_cells hbx).1
  have x1 := (blk_cells hbx).2
  have HWA : Hid (wa = w.alloc (.cells (blkC b) 36)) := hwa
  clear hwa
  have hrl := h.lt
  have h0 : Rw wa r c hc := h.low hB0
  have HS0 : Hid (Stays (only r) w wa) := Stays.of_below hB0 _
  have km := mayHave_any r c hc b.ty _ h0
  have c0 := h0.c0
  have c1 := h0.c1
  have f0 := h0.fz 0
  have f1 := h0.fz 1
  have hR : rtE c hc b = if ¬ (c = 0 ↔ b.ty = 0) ∨ 126 < b.ty ∨ (hc = true ∧ b.ty = 4) then 2 else if c = 1024 then 5 else chkE b := rfl
  by_cases hm : (c = 0 ↔ b.ty = 0) ∧ b.ty ≤ 126 ∧ ¬ (hc = true ∧ b.ty = 4)
  · replace hR := hR.trans (if_neg (by rintro (q | q | q); exact q hm.1; exact absurd hm.2.1 (by omega); exact hm.2.2 q))
    rw [show mayB c hc b.ty = true from decide_eq_true hm] at km
    have HM : Hid ((c = 0 ↔ b.ty = 0) ∧ b.ty ≤ 126 ∧ ¬ (hc = true ∧ b.ty = 4)) := hm
    clear hm
    by_cases hk : c = 1024
    · have HE : Hid (rtE c hc b = 5) := hR.trans (if_pos hk)
      have hq : ((c : Int) == 1024) = true := by rw [beq_iff_eq]; omega
      clear hR hk h h0 hB0 hbx
      go_enter Tryd.func31, Tryd.ntmps31
      go_wp2_with fail
      rw [← HWA.out]
      refine km.mono ?_
      rintro e w1 ⟨rfl, rfl⟩
      clear km
      go_wp2_with fail
      go_ret
      exact ⟨by rw [HE.out]; rfl, HS0.out, fun q => by rw [HE.out] at q; cases q⟩
    · have HE : Hid (rtE c hc b = chkE b) := hR.trans (if_neg hk)
      have hq : ((c : Int) == 1024) = false := by rw [beq_eq_false_iff_ne]; omega
      have hsum : IntKind.i64.wrap ((c : Int) + 1) = ((c + 1 : Nat) : Int) := by rw [IntKind.wrap_i64]; omega
      have HFIN : Hid (∀ hc2, hc2 = cmt hc b → Rw ((wa.setCell ⟨r, 0, none⟩ (.int .i64 ((c : Int) + 1))).setCell ⟨r, 1, none⟩ (.bool hc2)) r (c + 1) (cmt hc b) ∧ Stays (only r) w ((wa.setCell ⟨r, 0, none⟩ (.int .i64 ((c : Int) + 1))).setCell ⟨r, 1, none⟩ (.bool hc2)) ∧ ((wa.setCell ⟨r, 0, none⟩ (.int .i64 ((c : Int) + 1))).setCell ⟨r, 1, none⟩ (.bool hc2)).heap[w.heap.size]? = some (.cells (blkC b) 36 (0, 0))) := by
        rintro hc2 rfl
        refine ⟨?_, Stays.setCell (Stays.setCell HS0.out ⟨r, 0, none⟩ _ (.inl rfl)) ⟨r, 1, none⟩ _ (.inl rfl), ?_⟩
        · exact (h0.set0 (c + 1)).set1 _
        · rw [Below.heap_setCell _ _ _ _ (by show w.heap.size ≠ r; omega), Below.heap_setCell _ _ _ _ (by show w.heap.size ≠ r; omega)]
          exact hbx
      have KC : Hid (∀ wx, Hid (Rw wx r (c + 1) (cmt hc b) ∧ Stays (only r) w wx) → Calls Tryd.prog 13 #[blkV b] wx fun e w' => RtP w r c hc b e w') := fun wx hx =>
        (check_any b hs wx (hW.stays hx.out.2 (fun q => by have : 0 = r := q; omega))).mono fun e w' ⟨he, hb⟩ => ⟨by rw [HE.out]; exact he, hx.out.2.trans (Stays.of_below hb (only r)) (fun _ _ q => q), fun _ => hx.out.1.low hb⟩
      have hcm : ((hc = true) ∧ cmt hc b = true) ∨ (hc = false ∧ (b.ty == 4) = true ∧ cmt hc b = true) ∨ (hc = false ∧ (b.ty == 4) = false ∧ cmt hc b = false) := by
        unfold cmt
        by_cases q4 : b.ty = 4
        · cases hc
          · exact .inr (.inl ⟨rfl, by rw [beq_iff_eq]; exact q4, by rw [decide_eq_true q4]; rfl⟩)
          · exact .inl ⟨rfl, rfl⟩
        · cases hc
          · exact .inr (.inr ⟨rfl, by rw [beq_eq_false_iff_ne]; exact q4, by rw [decide_eq_false q4]; rfl⟩)
          · exact .inl ⟨rfl, rfl⟩
      clear hR hk h h0 hW HM HE hr hB0 hbx
      rcases hcm with ⟨hh, hcb⟩ | ⟨hh, hc4, hcb⟩ | ⟨hh, hc4, hcb⟩
      all_goals
        subst hh
        have HF := HFIN.out _ hcb.symm
        have HCB : Hid (cmt _ b = _) := hcb
        clear hcb HFIN
        go_enter Tryd.func31, Tryd.ntmps31
        go_wp2_with fail
        rw [← HWA.out]
        refine km.mono ?_
        rintro e w1 ⟨rfl, rfl⟩
        clear km
        obtain ⟨g1, g2, g3⟩ := HF
        have HG : Hid (Rw _ r (c + 1) _ ∧ Stays (only r) w _) := ⟨g1, g2⟩
        have d0 := (blk_cells g3).1
        have d1 := (blk_cells g3).2
        clear g1 g2 g3
        go_wp2_with fail
        refine (KC.out _ HG).mono ?_
        rintro e w2 h2
        have H2 : Hid (RtP w r c _ b e w2) := h2
        clear h2 KC HG d0 d1
        have he := H2.out.1
        subst he
        generalize hE : rtE c _ b = E at *
        have HEE : Hid (rtE c _ b = E) := hE
        clear hE
        go_wp2_with fail
        go_ret
        exact H2.out
  · have HE : Hid (rtE c hc b = 2) := hR.trans (if_pos (by
      by_cases q : c = 0 ↔ b.ty = 0
      · by_cases q2 : b.ty ≤ 126
        · exact .inr (.inr (Classical.byContradiction fun q3 => hm ⟨q, q2, q3⟩))
        · exact .inr (.inl (by omega))
      · exact .inl q))
    rw [show mayB c hc b.ty = false from decide_eq_false hm] at km
    clear hR hm h h0 hB0 hbx
    go_enter Tryd.func31, Tryd.ntmps31
    go_wp2_with fail
    rw [← HWA.out]
    refine km.mono ?_
    rintro e w1 ⟨rfl, rfl⟩
    clear km
    go_wp2_with fail
    go_ret
    exact ⟨by rw [HE.out]; rfl, HS0.out, fun q => by rw [HE.out] at q; cases q⟩

end Go.Proofs.YtfmpiidnemhijaaDoor

/- Own text: the walk of the document's one page. -/
import Derived.Test.YtjkamannjgcmiaaDoorR15onel
import Derived.Deep.CutRange
namespace Go.Proofs.YtjkamannjgcmiaaDoor
open Go.RowKit
set_option linter.unusedSimpArgs false
set_option linter.unusedVariables false

theorem sum_le : ∀ (l : List Nat), (∀ x ∈ l, x < 256) → l.sum ≤ 255 * l.length
  | [], _ => Nat.zero_le _
  | x :: t, h => by
    have h1 := h x (by simp)
    have h2 := sum_le t (fun y hy => h y (by simp [hy]))
    rw [List.sum_cons, List.length_cons]
    omega

theorem box5 {w : World} {wq : World} (h : Box wq w.heap.size zeroP 49) (hb : Below w.heap.size w wq) : Box (((((wq.setCell ⟨w.heap.size, 0, none⟩ (.int .i64 0)).setCell ⟨w.heap.size, 1, none⟩ (.int .i64 0)).setCell ⟨w.heap.size, 2, none⟩ (.int .i64 0)).setCell ⟨w.heap.size, 3, none⟩ (.int .i64 0)).setCell ⟨w.heap.size, 4, none⟩ (.slice none 0 0)) w.heap.size zeroP 49 ∧ Below w.heap.size w (((((wq.setCell ⟨w.heap.size, 0, none⟩ (.int .i64 0)).setCell ⟨w.heap.size, 1, none⟩ (.int .i64 0)).setCell ⟨w.heap.size, 2, none⟩ (.int .i64 0)).setCell ⟨w.heap.size, 3, none⟩ (.int .i64 0)).setCell ⟨w.heap.size, 4, none⟩ (.slice none 0 0)) :=
  ⟨⟨Joins.block_setCell (Joins.block_setCell (Joins.block_setCell (Joins.block_setCell (Joins.block_setCell h.h _) _) _) _) _⟩, ((((hb.setCell (Nat.le_refl _) _).setCell (Nat.le_refl _) _).setCell (Nat.le_refl _) _).setCell (Nat.le_refl _) _).setCell (Nat.le_refl _) _⟩
theorem own_pg {w : World} {B : Nat} {v : Value} {xs : List Int} {p : Pg} {ao : Option Addr} {cap : Nat} (h : w.ownsRow B 3 1 v xs.length (intsC xs)) (hv : v = .slice ao xs.length cap) (hp : p.la = xs) (hn : xs.length ≤ 17592186044415) (hr : ∀ x ∈ xs, -9223372036854775808 ≤ x ∧ x ≤ 9223372036854775807) : PgAt w p ao cap := by
  obtain ⟨ao2, cap2, e, _, hle, hno, hat⟩ := owns_shape h
  rw [hv] at e
  injection e with e1 e2 e3
  subst e1 e3
  refine ⟨?_, by rw [hp]; exact hle, fun q => (hno q).2⟩
  rw [hp]
  refine ⟨hn, hr, fun h0 => ?_⟩
  cases ao with
  | none => have := (hno rfl).1; omega
  | some a =>
    obtain ⟨ea, _, _⟩ := hat a rfl
    refine ⟨a.block, 0, by rw [ea], fun j hj => ?_⟩
    rw [hv, ea] at h
    rw [Nat.zero_add, h.cellAt j (by omega)]
    unfold intsC
    rw [List.getElem?_map, List.getElem?_eq_getElem hj, List.getD_eq_getElem?_getD, List.getElem?_eq_getElem hj]
    rfl
theorem own_blk {w : World} {B : Nat} {ao : Option Addr} {n cap : Nat} {e z : Nat} {xs : List Value} (h : w.ownsRow B e z (.slice ao n cap) n xs) : ∀ b, blockOf ao = some b → B ≤ b := by
  intro b hb
  obtain ⟨ao2, cap2, e2, _, _, _, hat⟩ := owns_shape h
  injection e2 with e1 _ _
  subst e1
  cases ao with
  | none => cases hb
  | some a =>
    injection hb with hb
    rw [← hb]
    exact (hat a rfl).2.1
theorem owns_setRow {w : World} {B g z : Nat} {e : TypeId} {v : Value} {n : Nat} {xs : List Value} (h : w.ownsRow B e z v n xs) (hg : g < B) (D : Array Value) : (w.setRow g D).ownsRow B e z v n xs := by
  refine h.kept (row := some g) ⟨rfl, rfl, rfl, by simp, fun k hk hne => setRow_other _ _ _ _ (fun q => hne (by rw [q]))⟩ ?_
  cases hv : v.ownBlock with
  | none => exact .inl rfl
  | some k =>
    right
    intro q
    have := (h.lt k hv).1
    cases q
    omega
theorem LQ.gran {w0 wx : World} {g : Nat} {fl se sq gr gr' : Int} {v : Value} {xs : List Int} (h : LQ w0 wx g fl se sq gr v xs) : LQ w0 (wx.setCell ⟨g, 3, none⟩ (.int .i64 gr')) g fl se sq gr' v xs :=
  ⟨⟨by rw [Below.heap_setCell _ _ _ _ (by have := h.lt; show w0.heap.size ≠ g; omega)]; exact h.res.h⟩, ⟨by rw [Joins.block_setCell h.pg.h]; rfl⟩, ownsRow_setCell_below h.own (Nat.lt_succ_self g) _, h.lt, h.bl.setCell (Nat.le_of_lt h.lt) _⟩
theorem laN_step (L : List Nat) (k : Nat) (h : 27 + u8 L 26 ≤ L.length) (hk : k < u8 L 26) : (laN L).take (k + 1) = (laN L).take k ++ [u8 L (27 + k)] := by
  have e : ∀ m, m ≤ u8 L 26 → (laN L).take m = seg L 27 (27 + m) := fun m hm => by
    unfold laN seg
    rw [List.take_drop, List.take_take, Nat.min_eq_left (by omega)]
  rw [e _ hk, e _ (by omega), ← seg_one L (27 + k) (by omega), show 27 + (k + 1) = 27 + k + 1 by omega, ← seg_cat L 27 (27 + k) _ (by omega) (by omega)]
theorem toL (t : ByteArray) (l : List UInt8) (h : (t.toList == l) = true) : bytesOf t = l.map UInt8.toNat := by
  have := eq_of_beq h
  unfold bytesOf
  rw [← this, ByteArray.toList_eq]
theorem toL_no (t : ByteArray) (l : List UInt8) (h : (t.toList == l) = false) : ¬ bytesOf t = l.map UInt8.toNat := by
  intro e
  have h2 : t.toList = l := by
    rw [ByteArray.toList_eq]
    unfold bytesOf at e
    exact (List.map_inj_right (fun a b hab => UInt8.toNat_inj.1 hab)).1 e
  rw [h2] at h
  simp at h

set_option maxRecDepth 20000 in
set_option maxHeartbeats 6400000 in
theorem xone_early (s : ByteArray) (hs : s.size ≤ 140737488351232) (w : World) (h : ¬ (27 ≤ s.size ∧ seg (bytesOf s) 0 5 = markL ∧ u8 (bytesOf s) 5 ≤ 7 ∧ 27 + u8 (bytesOf s) 26 ≤ s.size)) :
    Calls Tryd.prog 26 #[.string s] w fun e w' => OneE w.heap.size s e w' ∧ Below w.heap.size w w' := by
  have HNO : Hid (¬ oneOk (bytesOf s)) := fun q => h ⟨by have := q.1; rw [bytesOf_length] at this; exact this, q.2.1, q.2.2.1, by have := q.2.2.2.1; rw [bytesOf_length] at this; exact this⟩
  by_cases h27 : s.size < 27
  · clear h
    go_enter Tryd.func26, Tryd.ntmps26
    go_wp2_with fail
    refine bodyPost_ret (v := .tuple #[.agg zeroP, .string ⟨#[]⟩, .int .i64 0, .bool false]) ?_ rfl ⟨⟨fun q => absurd q (HNO.out), fun _ => rfl⟩, below_new _ _⟩
    rw [results_four rfl]
    have hld := run_loadVar_row (P := Tryd.prog) (w.alloc (.cells zeroP 49)) w.heap.size 49 49 zeroP (0, 0) _ (heap_alloc_new _ _) Tryd.underlying49 rfl info_page
    simp [asAddr, Result.andThen, hld]

  · have hsl := slice_upto s 5 (by omega)
    cases hm : ((s.extract 0 5).toList == [79, 103, 103, 83, 0])
    · clear h
      go_enter Tryd.func26, Tryd.ntmps26
      go_wp2_with fail
      refine bodyPost_ret (v := .tuple #[.agg zeroP, .string ⟨#[]⟩, .int .i64 0, .bool false]) ?_ rfl ⟨⟨fun q => absurd q (HNO.out), fun _ => rfl⟩, below_new _ _⟩
      rw [results_four rfl]
      have hld := run_loadVar_row (P := Tryd.prog) (w.alloc (.cells zeroP 49)) w.heap.size 49 49 zeroP (0, 0) _ (heap_alloc_new _ _) Tryd.underlying49 rfl info_page
      simp [asAddr, Result.andThen, hld]

    · have hm2 : seg (bytesOf s) 0 5 = markL := by rw [← bytesOf_ext]; exact toL _ _ hm
      have e5 := u8_at s 5 (by omega)
      have e26 := u8_at s 26 (by omega)
      have hb5 : (s[5]'(by omega)).toNat < 256 := UInt8.toNat_lt _
      have hb26 : (s[26]'(by omega)).toNat < 256 := UInt8.toNat_lt _
      by_cases h7 : 7 < (s[5]'(by omega)).toNat
      · clear h hm2 e5 e26
        have h7i : decide ((7 : Int) < ((s[5]'(by omega)).toNat : Int)) = true := decide_eq_true (by omega)
        clear h7
        go_enter Tryd.func26, Tryd.ntmps26
        go_wp2_with fail
        refine bodyPost_ret (v := .tuple #[.agg zeroP, .string ⟨#[]⟩, .int .i64 0, .bool false]) ?_ rfl ⟨⟨fun q => absurd q (HNO.out), fun _ => rfl⟩, below_new _ _⟩
        rw [results_four rfl]
        have hld := run_loadVar_row (P := Tryd.prog) (w.alloc (.cells zeroP 49)) w.heap.size 49 49 zeroP (0, 0) _ (heap_alloc_new _ _) Tryd.underlying49 rfl info_page
        simp [asAddr, Result.andThen, hld]

      · have h7i : decide ((7 : Int) < ((s[5]'(by omega)).toNat : Int)) = false := decide_eq_false (by omega)
        have hla : (s.size : Int) < 27 + ((s[26]'(by omega)).toNat : Int) := by
          by_cases q : 27 + (s[26]'(by omega)).toNat ≤ s.size
          · exact absurd ⟨by omega, hm2, by omega, by omega⟩ h
          · omega
        clear h hm2 e5 e26 h7
        go_enter Tryd.func26, Tryd.ntmps26
        go_wp2_with fail
        refine bodyPost_ret (v := .tuple #[.agg zeroP, .string ⟨#[]⟩, .int .i64 0, .bool false]) ?_ rfl ⟨⟨fun q => absurd q (HNO.out), fun _ => rfl⟩, below_new _ _⟩
        rw [results_four rfl]
        have hld := run_loadVar_row (P := Tryd.prog) (w.alloc (.cells zeroP 49)) w.heap.size 49 49 zeroP (0, 0) _ (heap_alloc_new _ _) Tryd.underlying49 rfl info_page
        simp [asAddr, Result.andThen, hld]


set_option maxRecDepth 20000 in
set_option maxHeartbeats 6400000 in
theorem xone_main (s : ByteArray) (hs : s.size ≤ 140737488351232) (w : World) (h27 : 27 ≤ s.size) (hm : ((s.extract 0 5).toList == [79, 103, 103, 83, 0]) = true) (h7 : u8 (bytesOf s) 5 ≤ 7) (hla : 27 + u8 (bytesOf s) 26 ≤ s.size) :
    Calls Tryd.prog 26 #[.string s] w fun e w' => OneE w.heap.size s e w' ∧ Below w.heap.size w w' := by
  have hsl5 := slice_upto s 5 (by omega)
  have hslA : ∀ w, (Instr.slice 9 (.string s) (some (.int .i64 14)) (some (.int .i64 18)) none).run Tryd.prog w = .ok (.string (s.extract 14 18)) w := slice_run s 14 18 (by omega) (by omega)
  have hslB : ∀ w, (Instr.slice 9 (.string s) (some (.int .i64 18)) (some (.int .i64 22)) none).run Tryd.prog w = .ok (.string (s.extract 18 22)) w := slice_run s 18 22 (by omega) (by omega)
  have K14 := le4 s 14 (by omega)
  have K18 := le4 s 18 (by omega)
  obtain ⟨se, hse⟩ : ∃ se, se = leN (seg (bytesOf s) 14 18) := ⟨_, rfl⟩
  obtain ⟨sq, hsq⟩ : ∃ sq, sq = leN (seg (bytesOf s) 18 22) := ⟨_, rfl⟩
  obtain ⟨fl, hfl⟩ : ∃ fl, fl = u8 (bytesOf s) 5 := ⟨_, rfl⟩
  obtain ⟨nl, hnl⟩ : ∃ nl, nl = u8 (bytesOf s) 26 := ⟨_, rfl⟩
  have HSE : Hid (se = leN (seg (bytesOf s) 14 18) ∧ sq = leN (seg (bytesOf s) 18 22) ∧ fl = u8 (bytesOf s) 5 ∧ nl = u8 (bytesOf s) 26) := ⟨hse, hsq, hfl, hnl⟩
  rw [← hse] at K14
  rw [← hsq] at K18
  have e5 : (s[5]'(by omega)).toNat = fl := by rw [hfl]; exact (u8_at s 5 (by omega)).symm
  have e26 : (s[26]'(by omega)).toNat = nl := by rw [hnl]; exact (u8_at s 26 (by omega)).symm
  have hb5 : fl ≤ 7 := by rw [hfl]; exact h7
  have hb26 : nl < 256 := by rw [← e26]; exact UInt8.toNat_lt _
  have HHD : Hid (27 ≤ (bytesOf s).length ∧ seg (bytesOf s) 0 5 = markL ∧ u8 (bytesOf s) 5 ≤ 7 ∧ 27 + u8 (bytesOf s) 26 ≤ (bytesOf s).length) := ⟨by rw [bytesOf_length]; exact h27, by rw [← bytesOf_ext]; exact toL _ _ hm, h7, by rw [bytesOf_length]; exact hla⟩
  have HFL : Hid ((s[5]'(by omega)).toNat = fl ∧ fl ≤ 7) := ⟨e5, hb5⟩
  have hp : 27 + nl ≤ s.size := by rw [hnl]; exact hla
  have hpi : (27 : Int) + (nl : Int) ≤ (s.size : Int) := by omega
  have h27i : decide ((s.size : Int) < 27) = false := decide_eq_false (by omega)
  have h7i : decide ((7 : Int) < (fl : Int)) = false := decide_eq_false (by omega)
  have hi5 : 5 < s.size := by omega
  have hi26 : 26 < s.size := by omega
  have hi5i : (5 : Int) < (s.size : Int) := by omega
  have hi26i : (26 : Int) < (s.size : Int) := by omega
  clear hse hsq hfl hnl h7 hla
  go_enter Tryd.func26, Tryd.ntmps26
  go_wp2_with fail
  have HR : Hid (Box (w.alloc (.cells zeroP 49)) w.heap.size zeroP 49 ∧ Below w.heap.size w (w.alloc (.cells zeroP 49))) := ⟨Box.new _ _ _, below_new _ _⟩
  generalize World.alloc w _ = wa at *
  go_cut [7] from 35 to 44 (fun s7 wx => ∃ g, s7 = .pointer (some ⟨g, 0, none⟩) ∧ LQ w wx g (fl : Int) (se : Int) (sq : Int) 0 noS [])
  case first =>
    refine wp_region_held_drew (S := fun wx => Hid (Below w.heap.size w wx)) (by kernel_rfl) (hid (below_on HR.out.2 HR.out.2.size (below_drew _))) (fun hS => ?_)
    refine wpAnyH_take (i := 0) (v := .string s) rfl (by kernel_rfl) (by kernel_rfl) (by kernel_rfl) (fun _ _ _ h => h) (Or.inl ⟨by rfl, fun w hSw => by go_simp⟩) hS ?_
    simp only [Act.put, List.getElem_toArray, List.getElem_cons_succ, List.getElem_cons_zero, List.setIfInBounds_toArray, List.set_cons_zero, List.set_cons_succ]
    refine wpAnyH_take (i := 1) (v := .int .u8 ((s[5]'(by omega)).toNat : Int)) rfl (by kernel_rfl) (by kernel_rfl) (by kernel_rfl) (fun _ _ _ h => h) (Or.inl ⟨by rfl, fun w hSw => by go_simp⟩) hS ?_
    simp only [Act.put, List.getElem_toArray, List.getElem_cons_succ, List.getElem_cons_zero, List.setIfInBounds_toArray, List.set_cons_zero, List.set_cons_succ]
    refine wpAnyH_take (i := 2) (v := .int .i64 (fl : Int)) rfl (by kernel_rfl) (by kernel_rfl) (by kernel_rfl) (fun _ _ _ h => h) (Or.inl ⟨by rfl, fun w hSw => by go_simp <;> (have e := HFL.out; first | omega | (rw [IntKind.wrap_i64]; omega))⟩) hS ?_
    simp only [Act.put, List.getElem_toArray, List.getElem_cons_succ, List.getElem_cons_zero, List.setIfInBounds_toArray, List.set_cons_zero, List.set_cons_succ]
    refine wpAnyH_take (i := 3) (v := .string s) rfl (by kernel_rfl) (by kernel_rfl) (by kernel_rfl) (fun _ _ _ h => h) (Or.inl ⟨by rfl, fun w hSw => by go_simp⟩) hS ?_
    simp only [Act.put, List.getElem_toArray, List.getElem_cons_succ, List.getElem_cons_zero, List.setIfInBounds_toArray, List.set_cons_zero, List.set_cons_succ]
    refine wpAnyH_take (i := 4) (v := .string (s.extract 14 18)) rfl (by kernel_rfl) (by kernel_rfl) (by kernel_rfl) (fun _ _ _ h => h) (Or.inl ⟨by rfl, fun w hSw => by go_simp⟩) hS ?_
    simp only [Act.put, List.getElem_toArray, List.getElem_cons_succ, List.getElem_cons_zero, List.setIfInBounds_toArray, List.set_cons_zero, List.set_cons_succ]
    refine wpAnyH_take (i := 6) (v := .string s) rfl (by kernel_rfl) (by kernel_rfl) (by kernel_rfl) (fun _ _ _ h => h) (Or.inl ⟨by rfl, fun w hSw => by go_simp⟩) hS ?_
    simp only [Act.put, List.getElem_toArray, List.getElem_cons_succ, List.getElem_cons_zero, List.setIfInBounds_toArray, List.set_cons_zero, List.set_cons_succ]
    refine wpAnyH_take (i := 7) (v := .string (s.extract 18 22)) rfl (by kernel_rfl) (by kernel_rfl) (by kernel_rfl) (fun _ _ _ h => h) (Or.inl ⟨by rfl, fun w hSw => by go_simp⟩) hS ?_
    simp only [Act.put, List.getElem_toArray, List.getElem_cons_succ, List.getElem_cons_zero, List.setIfInBounds_toArray, List.set_cons_zero, List.set_cons_succ]
    refine wpAnyH_ready (rs := [5, 10]) (by kernel_rfl) (by simp) ?_
    refine AllReadyH.cons rfl (fun K hK => ?_) (AllReadyH.cons rfl (fun K hK => ?_) AllReadyH.nil)
    · go_simp
      refine (K14 _).mono ?_
      rintro e w2 ⟨rfl, hb⟩
      have H2 : Hid (Box w2 w.heap.size zeroP 49 ∧ Below w.heap.size w w2) := ⟨(HR.out.1.drew).keep hb, below_on (below_on HR.out.2 HR.out.2.size (below_drew _)) (by have := HR.out.2.size; simpa using this) hb⟩
      refine hK.out _ _ (hid H2.out.2) (fun hS2 => ?_)
      clear hK K hb hS HR
      refine wpAnyH_ready (rs := [8, 10]) (by kernel_rfl) (by simp) ?_
      refine AllReadyH.cons rfl (fun K hK => ?_) (AllReadyH.cons rfl (fun K hK => ?_) AllReadyH.nil)
      · go_simp
        refine (K18 _).mono ?_
        rintro e w3 ⟨rfl, hb⟩
        have H3 : Hid (Box w3 w.heap.size zeroP 49 ∧ Below w.heap.size w w3) := ⟨H2.out.1.keep hb, below_on H2.out.2 H2.out.2.size hb⟩
        refine hK.out _ _ (hid H3.out.2) (fun hS3 => ?_)
        clear hK K hb hS2 H2
        refine wpAnyH_take (i := 9) (v := .agg #[.int .i64 (fl : Int), .int .i64 (se : Int), .int .i64 (sq : Int), .int .i64 0, .slice none 0 0]) rfl (by kernel_rfl) (by kernel_rfl) (by kernel_rfl) (fun _ _ _ h => h) (Or.inl ⟨by rfl, fun w hSw => by go_simp⟩) hS3 ?_
        simp only [Act.put, List.getElem_toArray, List.getElem_cons_succ, List.getElem_cons_zero, List.setIfInBounds_toArray, List.set_cons_zero, List.set_cons_succ]
        refine wpAnyH_ready (rs := [10]) (by kernel_rfl) (by simp) ?_
        refine AllReadyH.cons rfl (fun K hK => ?_) AllReadyH.nil
        go_simp
        have H4 : Hid (Box (w3.alloc (.cells zeroP 49)) w.heap.size zeroP 49 ∧ Below w.heap.size w (w3.alloc (.cells zeroP 49)) ∧ Box (w3.alloc (.cells zeroP 49)) w3.heap.size zeroP 49 ∧ w.heap.size < w3.heap.size) := ⟨H3.out.1.keep (below_new _ _), below_on H3.out.2 H3.out.2.size (below_new _ _), Box.new _ _ _, H3.out.1.lt⟩
        obtain ⟨wn, hwn⟩ : ∃ wn, wn = w3.alloc (.cells zeroP 49) := ⟨_, rfl⟩
        obtain ⟨g, hg⟩ : ∃ g, g = w3.heap.size := ⟨_, rfl⟩
        rw [← hwn, ← hg] at H4
        rw [← hwn, ← hg]
        clear hwn hg
        refine hK.out _ _ (hid H4.out.2.1) (fun hS4 => ?_)
        clear hK K hS3 H3
        refine wpAnyH_ready (rs := [11]) (by kernel_rfl) (by simp) ?_
        refine AllReadyH.cons rfl (fun K hK => ?_) AllReadyH.nil
        rw [if_pos (by rfl)]
        refine wp_store_row 49 (.tmp 7) (.tmp 44) rfl g #[.int .i64 (fl : Int), .int .i64 (se : Int), .int .i64 (sq : Int), .int .i64 0, .slice none 0 0] rfl rfl 49 zeroP H4.out.2.2.1.h info_page rfl (by simp [Value.oneCell']) ?_
        have HZ : Hid (LQ w (wn.setRow g #[.int .i64 (fl : Int), .int .i64 (se : Int), .int .i64 (sq : Int), .int .i64 0, .slice none 0 0]) g (fl : Int) (se : Int) (sq : Int) 0 noS []) := ⟨H4.out.1.other (by have := H4.out.2.2.2; omega) _, H4.out.2.2.1.set _, World.ownsRow_nil _ _ _ _, H4.out.2.2.2, below_setRow H4.out.2.1 (Nat.le_of_lt H4.out.2.2.2) _⟩
        refine hK.out _ _ (hid HZ.out.bl) (fun hS9 => ?_)
        clear hK K hS4
        refine wpAnyH_done (by kernel_rfl) ?_ _
        go_wp2_with fail
        go_meet
        exact ⟨g, rfl, HZ.out⟩
      · go_simp
        have H3 : Hid (Box (w2.alloc (.cells zeroP 49)) w.heap.size zeroP 49 ∧ Below w.heap.size w (w2.alloc (.cells zeroP 49)) ∧ Box (w2.alloc (.cells zeroP 49)) w2.heap.size zeroP 49 ∧ w.heap.size < w2.heap.size) := ⟨H2.out.1.keep (below_new _ _), below_on H2.out.2 H2.out.2.size (below_new _ _), Box.new _ _ _, H2.out.1.lt⟩
        obtain ⟨wn, hwn⟩ : ∃ wn, wn = w2.alloc (.cells zeroP 49) := ⟨_, rfl⟩
        obtain ⟨g, hg⟩ : ∃ g, g = w2.heap.size := ⟨_, rfl⟩
        rw [← hwn, ← hg] at H3
        rw [← hwn, ← hg]
        clear hwn hg
        refine hK.out _ _ (hid H3.out.2.1) (fun hS3 => ?_)
        clear hK K hS2 H2
        refine wpAnyH_ready (rs := [8]) (by kernel_rfl) (by simp) ?_
        refine AllReadyH.cons rfl (fun K hK => ?_) AllReadyH.nil
        go_simp
        refine (K18 _).mono ?_
        rintro e w4 ⟨rfl, hb⟩
        have H4 : Hid (Box w4 w.heap.size zeroP 49 ∧ Below w.heap.size w w4 ∧ Box w4 g zeroP 49 ∧ w.heap.size < g) := ⟨H3.out.1.keep hb, below_on H3.out.2.1 H3.out.2.1.size hb, H3.out.2.2.1.keep hb, H3.out.2.2.2⟩
        refine hK.out _ _ (hid H4.out.2.1) (fun hS4 => ?_)
        clear hK K hb hS3 H3
        refine wpAnyH_take (i := 9) (v := .agg #[.int .i64 (fl : Int), .int .i64 (se : Int), .int .i64 (sq : Int), .int .i64 0, .slice none 0 0]) rfl (by kernel_rfl) (by kernel_rfl) (by kernel_rfl) (fun _ _ _ h => h) (Or.inl ⟨by rfl, fun w hSw => by go_simp⟩) hS4 ?_
        simp only [Act.put, List.getElem_toArray, List.getElem_cons_succ, List.getElem_cons_zero, List.setIfInBounds_toArray, List.set_cons_zero, List.set_cons_succ]
        refine wpAnyH_ready (rs := [11]) (by kernel_rfl) (by simp) ?_
        refine AllReadyH.cons rfl (fun K hK => ?_) AllReadyH.nil
        rw [if_pos (by rfl)]
        refine wp_store_row 49 (.tmp 7) (.tmp 44) rfl g #[.int .i64 (fl : Int), .int .i64 (se : Int), .int .i64 (sq : Int), .int .i64 0, .slice none 0 0] rfl rfl 49 zeroP H4.out.2.2.1.h info_page rfl (by simp [Value.oneCell']) ?_
        have HZ : Hid (LQ w (w4.setRow g #[.int .i64 (fl : Int), .int .i64 (se : Int), .int .i64 (sq : Int), .int .i64 0, .slice none 0 0]) g (fl : Int) (se : Int) (sq : Int) 0 noS []) := ⟨H4.out.1.other (by have := H4.out.2.2.2; omega) _, H4.out.2.2.1.set _, World.ownsRow_nil _ _ _ _, H4.out.2.2.2, below_setRow H4.out.2.1 (Nat.le_of_lt H4.out.2.2.2) _⟩
        refine hK.out _ _ (hid HZ.out.bl) (fun hS9 => ?_)
        clear hK K hS4
        refine wpAnyH_done (by kernel_rfl) ?_ _
        go_wp2_with fail
        go_meet
        exact ⟨g, rfl, HZ.out⟩
    · go_simp
      have H2 : Hid (Box ((wa.alloc (.cells zeroP 49)).drew) w.heap.size zeroP 49 ∧ Below w.heap.size w ((wa.alloc (.cells zeroP 49)).drew) ∧ Box ((wa.alloc (.cells zeroP 49)).drew) wa.heap.size zeroP 49 ∧ w.heap.size < wa.heap.size) := ⟨(HR.out.1.keep (below_new _ _)).drew, below_on (below_on HR.out.2 HR.out.2.size (below_new _ _)) (by have := HR.out.2.size; simp; omega) (below_drew _), (Box.new _ _ _).drew, HR.out.1.lt⟩
      obtain ⟨wn, hwn⟩ : ∃ wn, wn = (wa.alloc (.cells zeroP 49)).drew := ⟨_, rfl⟩
      obtain ⟨g, hg⟩ : ∃ g, g = wa.heap.size := ⟨_, rfl⟩
      rw [← hwn, ← hg] at H2
      rw [← hwn, ← hg]
      clear hwn hg
      refine hK.out _ _ (hid H2.out.2.1) (fun hS2 => ?_)
      clear hK K hS HR
      refine wpAnyH_ready (rs := [5]) (by kernel_rfl) (by simp) ?_
      refine AllReadyH.cons rfl (fun K hK => ?_) AllReadyH.nil
      go_simp
      refine (K14 _).mono ?_
      rintro e w3 ⟨rfl, hb⟩
      have H3 : Hid (Box w3 w.heap.size zeroP 49 ∧ Below w.heap.size w w3 ∧ Box w3 g zeroP 49 ∧ w.heap.size < g) := ⟨H2.out.1.keep hb, below_on H2.out.2.1 H2.out.2.1.size hb, H2.out.2.2.1.keep hb, H2.out.2.2.2⟩
      refine hK.out _ _ (hid H3.out.2.1) (fun hS3 => ?_)
      clear hK K hb hS2 H2
      refine wpAnyH_ready (rs := [8]) (by kernel_rfl) (by simp) ?_
      refine AllReadyH.cons rfl (fun K hK => ?_) AllReadyH.nil
      go_simp
      refine (K18 _).mono ?_
      rintro e w4 ⟨rfl, hb⟩
      have H4 : Hid (Box w4 w.heap.size zeroP 49 ∧ Below w.heap.size w w4 ∧ Box w4 g zeroP 49 ∧ w.heap.size < g) := ⟨H3.out.1.keep hb, below_on H3.out.2.1 H3.out.2.1.size hb, H3.out.2.2.1.keep hb, H3.out.2.2.2⟩
      refine hK.out _ _ (hid H4.out.2.1) (fun hS4 => ?_)
      clear hK K hb hS3 H3
      refine wpAnyH_take (i := 9) (v := .agg #[.int .i64 (fl : Int), .int .i64 (se : Int), .int .i64 (sq : Int), .int .i64 0, .slice none 0 0]) rfl (by kernel_rfl) (by kernel_rfl) (by kernel_rfl) (fun _ _ _ h => h) (Or.inl ⟨by rfl, fun w hSw => by go_simp⟩) hS4 ?_
      simp only [Act.put, List.getElem_toArray, List.getElem_cons_succ, List.getElem_cons_zero, List.setIfInBounds_toArray, List.set_cons_zero, List.set_cons_succ]
      refine wpAnyH_ready (rs := [11]) (by kernel_rfl) (by simp) ?_
      refine AllReadyH.cons rfl (fun K hK => ?_) AllReadyH.nil
      rw [if_pos (by rfl)]
      refine wp_store_row 49 (.tmp 7) (.tmp 44) rfl g #[.int .i64 (fl : Int), .int .i64 (se : Int), .int .i64 (sq : Int), .int .i64 0, .slice none 0 0] rfl rfl 49 zeroP H4.out.2.2.1.h info_page rfl (by simp [Value.oneCell']) ?_
      have HZ : Hid (LQ w (w4.setRow g #[.int .i64 (fl : Int), .int .i64 (se : Int), .int .i64 (sq : Int), .int .i64 0, .slice none 0 0]) g (fl : Int) (se : Int) (sq : Int) 0 noS []) := ⟨H4.out.1.other (by have := H4.out.2.2.2; omega) _, H4.out.2.2.1.set _, World.ownsRow_nil _ _ _ _, H4.out.2.2.2, below_setRow H4.out.2.1 (Nat.le_of_lt H4.out.2.2.2) _⟩
      refine hK.out _ _ (hid HZ.out.bl) (fun hS9 => ?_)
      clear hK K hS4
      refine wpAnyH_done (by kernel_rfl) ?_ _
      go_wp2_with fail
      go_meet
      exact ⟨g, rfl, HZ.out⟩

  case rest =>
    obtain ⟨g, rfl, hq0⟩ := hcut
    have HQ0 := hid hq0
    clear hq0 K14 K18 hslA hslB hsl5 hm HFL HR e5 e26 h7i h27i hi5i hi26i hi5 hi26 hb5
    obtain ⟨iI, hI0, hI1, hI2, hI3⟩ := info_parts5 info3
    have HII : Hid (Tryd.prog.info? 3 = some iI ∧ iI.zero = some (.int .i64 0) ∧ iI.size = 1 ∧ iI.bytes = 8) := ⟨hI0, hI1, hI2, hI3⟩
    clear hI0 hI1 hI2 hI3
    have HLL : Hid ((laN (bytesOf s)).length = nl ∧ 27 + nl ≤ (bytesOf s).length ∧ nl = u8 (bytesOf s) 26 ∧ (∀ x ∈ laN (bytesOf s), x < 256)) := ⟨by unfold laN; rw [seg_length _ _ _ (by rw [bytesOf_length, ← HSE.out.2.2.2]; exact hp), ← HSE.out.2.2.2]; omega, by rw [bytesOf_length]; exact hp, HSE.out.2.2.2, fun x hx => bytesOf_lt s x (seg_mem hx)⟩
    go_wp2_with fail
    go_loopw [8, 9] (fun s8 s9 wr => ∃ (k : Nat) (v : Value), k ≤ nl ∧ s9 = .int .i64 (k : Int) ∧ s8 = .int .i64 ((((laN (bytesOf s)).take k).sum : Nat) : Int) ∧ LQ w wr g (fl : Int) (se : Int) (sq : Int) 0 v (((laN (bytesOf s)).take k).map fun x : Nat => (x : Int))) (fun _ s9 _ => nl - (intOf s9).toNat)
    case atStart => exact ⟨0, noS, Nat.zero_le _, rfl, rfl, HQ0.out⟩
    case round =>
      obtain ⟨k, v0, hk, rfl, rfl, hq_⟩ := hrel
      clear HQ0
      have hxl : (((laN (bytesOf s)).take k).map fun x : Nat => (x : Int)).length = k := by rw [List.length_map, List.length_take, HLL.out.1]; omega
      have HXR : Hid (∀ y ∈ (((laN (bytesOf s)).take k).map fun x : Nat => (x : Int)), -9223372036854775808 ≤ y ∧ y ≤ 9223372036854775807) := fun y hy => by
        obtain ⟨z, hz, rfl⟩ := List.mem_map.1 hy
        have := HLL.out.2.2.2 z (List.mem_of_mem_take hz)
        omega
      have hsm : ((laN (bytesOf s)).take k).sum ≤ 255 * k := by
        have := sum_le ((laN (bytesOf s)).take k) (fun x hx => HLL.out.2.2.2 x (List.mem_of_mem_take hx))
        rw [List.length_take, HLL.out.1] at this
        omega
      by_cases hlt : k < nl
      · obtain ⟨q, hq27⟩ : ∃ q, q = 27 + k := ⟨_, rfl⟩
        have hq : q < s.size := by omega
        have hst := laN_step (bytesOf s) k (by rw [← HLL.out.2.2.1]; exact HLL.out.2.1) (by rw [← HLL.out.2.2.1]; exact hlt)
        obtain ⟨x, hx⟩ : ∃ x, x = (s[q]'hq).toNat := ⟨_, rfl⟩
        have hxu : u8 (bytesOf s) (27 + k) = x := by rw [← hq27, hx]; exact u8_at s q hq
        rw [hxu] at hst
        have HSUM : Hid (((laN (bytesOf s)).take (k + 1)).sum = ((laN (bytesOf s)).take k).sum + x) := by show _ = _; rw [hst, List.sum_append, List.sum_singleton]
        have HTK : Hid ((((laN (bytesOf s)).take (k + 1)).map fun x : Nat => (x : Int)) = (((laN (bytesOf s)).take k).map fun x : Nat => (x : Int)) ++ [(x : Int)]) := by show _ = _; rw [hst, List.map_append]; rfl
        have HQQ := hid hq_
        clear hst hxu
        generalize ((laN (bytesOf s)).take k).sum = m at *
        generalize (((laN (bytesOf s)).take k).map fun x : Nat => (x : Int)) = xs at *
        obtain ⟨ao, cap, ev, _⟩ := owns_shape HQQ.out.own
        subst ev
        have HQ : Hid (LQ w wr g (fl : Int) (se : Int) (sq : Int) 0 (.slice ao xs.length cap) xs) := HQQ.out
        have HKQ : Hid (27 + k = q) := hq27.symm
        have hxr : x < 256 := by rw [hx]; exact UInt8.toNat_lt _
        have HXX : Hid ((s[q]'hq).toNat = x ∧ x < 256) := ⟨hx.symm, hxr⟩
        have hxs : xs.length ≤ 255 := by omega
        have hkq : (27 : Int) + (k : Int) = (q : Int) := by omega
        have hqi : (q : Int) < (s.size : Int) := by omega
        have hxe : (s[q]'hq).toNat = x := hx.symm
        have c4 := HQ.out.pg.c 4 _ rfl
        clear HQQ hq27 hx hxl
        go_upto_region 11 with fail
        refine wp_region_held_drew (S := fun wx => Hid (Below w.heap.size w wx)) (by kernel_rfl) (hid (below_on HQ.out.bl HQ.out.bl.size (below_drew _))) (fun hS => ?_)
        refine wpAnyH_take (i := 0) (v := .pointer (some ⟨g, 4, none⟩)) rfl (by kernel_rfl) (by kernel_rfl) (by kernel_rfl) (fun _ _ _ h => h) (Or.inl ⟨by rfl, fun w hSw => by go_simp⟩) hS ?_
        simp only [Act.put, List.getElem_toArray, List.getElem_cons_succ, List.getElem_cons_zero, List.setIfInBounds_toArray, List.set_cons_zero, List.set_cons_succ]
        refine wpAnyH_take (i := 2) (v := .string s) rfl (by kernel_rfl) (by kernel_rfl) (by kernel_rfl) (fun _ _ _ h => h) (Or.inl ⟨by rfl, fun w hSw => by go_simp⟩) hS ?_
        simp only [Act.put, List.getElem_toArray, List.getElem_cons_succ, List.getElem_cons_zero, List.setIfInBounds_toArray, List.set_cons_zero, List.set_cons_succ]
        refine wpAnyH_take (i := 3) (v := .int .i64 (k : Int)) rfl (by kernel_rfl) (by kernel_rfl) (by kernel_rfl) (fun _ _ _ h => h) (Or.inl ⟨by rfl, fun w hSw => by go_simp⟩) hS ?_
        simp only [Act.put, List.getElem_toArray, List.getElem_cons_succ, List.getElem_cons_zero, List.setIfInBounds_toArray, List.set_cons_zero, List.set_cons_succ]
        refine wpAnyH_take (i := 4) (v := .int .i64 ((q : Nat) : Int)) rfl (by kernel_rfl) (by kernel_rfl) (by kernel_rfl) (fun _ _ _ h => h) (Or.inl ⟨by rfl, fun w hSw => by go_simp <;> (have e := HKQ.out; first | omega | (rw [IntKind.wrap_i64]; omega))⟩) hS ?_
        simp only [Act.put, List.getElem_toArray, List.getElem_cons_succ, List.getElem_cons_zero, List.setIfInBounds_toArray, List.set_cons_zero, List.set_cons_succ]
        refine wpAnyH_take (i := 5) (v := .int .u8 ((s[q]'hq).toNat : Int)) rfl (by kernel_rfl) (by kernel_rfl) (by kernel_rfl) (fun _ _ _ h => h) (Or.inl ⟨by rfl, fun w hSw => by go_simp⟩) hS ?_
        simp only [Act.put, List.getElem_toArray, List.getElem_cons_succ, List.getElem_cons_zero, List.setIfInBounds_toArray, List.set_cons_zero, List.set_cons_succ]
        refine wpAnyH_take (i := 6) (v := .int .i64 (x : Int)) rfl (by kernel_rfl) (by kernel_rfl) (by kernel_rfl) (fun _ _ _ h => h) (Or.inl ⟨by rfl, fun w hSw => by have e := HXX.out; go_simp <;> (first | omega | (rw [IntKind.wrap_i64]; omega))⟩) hS ?_
        simp only [Act.put, List.getElem_toArray, List.getElem_cons_succ, List.getElem_cons_zero, List.setIfInBounds_toArray, List.set_cons_zero, List.set_cons_succ]
        refine wpAnyH_ready (rs := [1, 7]) (by kernel_rfl) (by simp) ?_
        refine AllReadyH.cons rfl (fun K hK => ?_) (AllReadyH.cons rfl (fun K hK => ?_) AllReadyH.nil)
        · go_simp
          refine hK.out _ _ (hid (below_on HQ.out.bl HQ.out.bl.size (below_drew _))) (fun hS2 => ?_)
          clear hK K hS c4
          refine wpAnyH_ready (rs := [7]) (by kernel_rfl) (by simp) ?_
          refine AllReadyH.cons rfl (fun K hK => ?_) AllReadyH.nil
          go_simp
          obtain ⟨wy, hwy⟩ : ∃ wy, wy = World.drew (World.alloc wr (.cells #[.int .i64 (x : Int)] 3)) := ⟨_, rfl⟩
          obtain ⟨gy, hgy⟩ : ∃ gy, gy = wr.heap.size := ⟨_, rfl⟩
          have HY : Hid ((∀ j u, [Value.int .i64 (x : Int)][j]? = some u → wy.cell? ((⟨gy, 0, none⟩ : Addr).add j) = some u) ∧ LQ w wy g (fl : Int) (se : Int) (sq : Int) 0 (.slice ao xs.length cap) xs) := by
            rw [hwy, hgy]
            exact ⟨one_new _ _ _, (HQ.out.low (below_new _ _)).low (below_drew _)⟩
          rw [← hwy, ← hgy]
          clear hwy hgy
          refine hK.out _ _ (hid HY.out.2.bl) (fun hS3 => ?_)
          clear hK K hS2 HQ
          refine wpAnyH_ready (rs := [8]) (by kernel_rfl) (by simp) ?_
          refine AllReadyH.cons rfl (fun K hK => ?_) AllReadyH.nil
          refine step_append_own _ rfl (.tmp 51) (.tmp 57) 37 rfl (g + 1) 3 iI (.int .i64 0) 1 8 Tryd.underlying37 HII.out.1 HII.out.2.1 HII.out.2.2.1 HII.out.2.2.2 rfl (by decide) (.slice ao xs.length cap) xs.length _ rfl HY.out.2.own ⟨gy, 0, none⟩ 1 1 [.int .i64 (x : Int)] rfl rfl HY.out.1 (by simp [Value.oneCell']) (by simp only [maxLen]; omega) (by omega) HY.out.2.glt ?_
          intro v6 w6 ho6 hg6
          have HL6 : Hid (Box w6 g #[.int .i64 (fl : Int), .int .i64 (se : Int), .int .i64 (sq : Int), .int .i64 0, .slice ao xs.length cap] 49 ∧ LQ w (w6.setCell ⟨g, 4, none⟩ v6) g (fl : Int) (se : Int) (sq : Int) 0 v6 (xs ++ [(x : Int)]) ∧ Below w.heap.size w w6) := HY.out.2.push ho6.out hg6.out
          obtain ⟨ao6, cap6, e6, _⟩ := owns_shape ho6.out
          subst e6
          refine hK.out _ _ (hid HL6.out.2.2) (fun hS4 => ?_)
          clear hK K hS3 HY ho6 hg6
          refine wpAnyH_take (i := 9) (v := .pointer (some ⟨g, 4, none⟩)) rfl (by kernel_rfl) (by kernel_rfl) (by kernel_rfl) (fun _ _ _ h => h) (Or.inl ⟨by rfl, fun w hSw => by go_simp⟩) hS4 ?_
          simp only [Act.put, List.getElem_toArray, List.getElem_cons_succ, List.getElem_cons_zero, List.setIfInBounds_toArray, List.set_cons_zero, List.set_cons_succ]
          have c4 := HL6.out.1.c 4 _ rfl
          have f4 := HL6.out.1.fz 4
          refine wpAnyH_ready (rs := [10]) (by kernel_rfl) (by simp) ?_
          refine AllReadyH.cons rfl (fun K hK => ?_) AllReadyH.nil
          go_simp
          refine hK.out _ _ (hid HL6.out.2.1.bl) (fun hS5 => ?_)
          clear hK K hS4 c4 f4
          refine wpAnyH_done (by kernel_rfl) ?_ _
          have HF := hid HL6.out.2.1
          clear HL6
          go_wp2_with fail
          go_roundw
          case rel => exact ⟨k + 1, _, by omega, by go_num, by rw [HSUM.out]; go_num, by rw [HTK.out]; exact HF.out⟩
          case measure => simp [intOf]; omega
        · go_simp
          obtain ⟨wy, hwy⟩ : ∃ wy, wy = World.drew (World.alloc wr (.cells #[.int .i64 (x : Int)] 3)) := ⟨_, rfl⟩
          obtain ⟨gy, hgy⟩ : ∃ gy, gy = wr.heap.size := ⟨_, rfl⟩
          have HY : Hid ((∀ j u, [Value.int .i64 (x : Int)][j]? = some u → wy.cell? ((⟨gy, 0, none⟩ : Addr).add j) = some u) ∧ LQ w wy g (fl : Int) (se : Int) (sq : Int) 0 (.slice ao xs.length cap) xs) := by
            rw [hwy, hgy]
            exact ⟨one_new _ _ _, (HQ.out.low (below_new _ _)).low (below_drew _)⟩
          rw [← hwy, ← hgy]
          clear hwy hgy
          refine hK.out _ _ (hid HY.out.2.bl) (fun hS2 => ?_)
          clear hK K hS HQ c4
          have c4 := HY.out.2.pg.c 4 _ rfl
          refine wpAnyH_ready (rs := [1]) (by kernel_rfl) (by simp) ?_
          refine AllReadyH.cons rfl (fun K hK => ?_) AllReadyH.nil
          go_simp
          refine hK.out _ _ (hid HY.out.2.bl) (fun hS3 => ?_)
          clear hK K hS2 c4
          refine wpAnyH_ready (rs := [8]) (by kernel_rfl) (by simp) ?_
          refine AllReadyH.cons rfl (fun K hK => ?_) AllReadyH.nil
          refine step_append_own _ rfl (.tmp 51) (.tmp 57) 37 rfl (g + 1) 3 iI (.int .i64 0) 1 8 Tryd.underlying37 HII.out.1 HII.out.2.1 HII.out.2.2.1 HII.out.2.2.2 rfl (by decide) (.slice ao xs.length cap) xs.length _ rfl HY.out.2.own ⟨gy, 0, none⟩ 1 1 [.int .i64 (x : Int)] rfl rfl HY.out.1 (by simp [Value.oneCell']) (by simp only [maxLen]; omega) (by omega) HY.out.2.glt ?_
          intro v6 w6 ho6 hg6
          have HL6 : Hid (Box w6 g #[.int .i64 (fl : Int), .int .i64 (se : Int), .int .i64 (sq : Int), .int .i64 0, .slice ao xs.length cap] 49 ∧ LQ w (w6.setCell ⟨g, 4, none⟩ v6) g (fl : Int) (se : Int) (sq : Int) 0 v6 (xs ++ [(x : Int)]) ∧ Below w.heap.size w w6) := HY.out.2.push ho6.out hg6.out
          obtain ⟨ao6, cap6, e6, _⟩ := owns_shape ho6.out
          subst e6
          refine hK.out _ _ (hid HL6.out.2.2) (fun hS4 => ?_)
          clear hK K hS3 HY ho6 hg6
          refine wpAnyH_take (i := 9) (v := .pointer (some ⟨g, 4, none⟩)) rfl (by kernel_rfl) (by kernel_rfl) (by kernel_rfl) (fun _ _ _ h => h) (Or.inl ⟨by rfl, fun w hSw => by go_simp⟩) hS4 ?_
          simp only [Act.put, List.getElem_toArray, List.getElem_cons_succ, List.getElem_cons_zero, List.setIfInBounds_toArray, List.set_cons_zero, List.set_cons_succ]
          have c4 := HL6.out.1.c 4 _ rfl
          have f4 := HL6.out.1.fz 4
          refine wpAnyH_ready (rs := [10]) (by kernel_rfl) (by simp) ?_
          refine AllReadyH.cons rfl (fun K hK => ?_) AllReadyH.nil
          go_simp
          refine hK.out _ _ (hid HL6.out.2.1.bl) (fun hS5 => ?_)
          clear hK K hS4 c4 f4
          refine wpAnyH_done (by kernel_rfl) ?_ _
          have HF := hid HL6.out.2.1
          clear HL6
          go_wp2_with fail
          go_roundw
          case rel => exact ⟨k + 1, _, by omega, by go_num, by rw [HSUM.out]; go_num, by rw [HTK.out]; exact HF.out⟩
          case measure => simp [intOf]; omega
      · have htk : (laN (bytesOf s)).take k = laN (bytesOf s) := List.take_of_length_le (by rw [HLL.out.1]; omega)
        rw [htk] at hq_ hxl HXR hsm ⊢
        obtain ⟨p, hpp⟩ : ∃ p, p = 27 + nl := ⟨_, rfl⟩
        obtain ⟨en, hen⟩ : ∃ en, en = endN (bytesOf s) := ⟨_, rfl⟩
        have henv : en = p + (laN (bytesOf s)).sum := by rw [hen, hpp, HLL.out.2.2.1]; rfl
        have HTX : Hid (s.extract (27 + u8 (bytesOf s) 26) (endN (bytesOf s)) = s.extract p en ∧ endN (bytesOf s) = en) := ⟨by rw [hen, hpp, HLL.out.2.2.1], hen.symm⟩
        have HONE : Hid (oneOk (bytesOf s) ↔ (en ≤ s.size ∧ oggN (sumL (bytesOf s) en) = leN (seg (bytesOf s) 22 26) ∧ (0 ≤ grN (bytesOf s) ∨ seg (bytesOf s) 6 14 = ffL))) := by
          show _ ↔ _
          rw [hen]
          refine ⟨fun q => ⟨by have := q.2.2.2.2.1; rw [bytesOf_length] at this; exact this, q.2.2.2.2.2.1, q.2.2.2.2.2.2⟩, fun q => ⟨HHD.out.1, HHD.out.2.1, HHD.out.2.2.1, HHD.out.2.2.2, by rw [bytesOf_length]; exact q.1, q.2.1, q.2.2⟩⟩
        have HPG0 : Hid (pgN (bytesOf s) = ⟨(fl : Int), (se : Int), (sq : Int), grN (bytesOf s), (laN (bytesOf s)).map fun x : Nat => (x : Int)⟩) := by
          show _ = _
          rw [HSE.out.1, HSE.out.2.1, HSE.out.2.2.1]
          rfl
        have hkn : nl = k := by omega
        clear hen htk HHD HSE hk hlt
        obtain ⟨ao, cap, ev, _⟩ := owns_shape hq_.own
        subst ev
        have HQ := hid hq_
        clear hq_
        generalize ((laN (bytesOf s)).map fun x : Nat => (x : Int)) = xs at *
        generalize (laN (bytesOf s)).sum = m at *
        have hxs : xs.length ≤ 255 := by have := hkn; omega
        have hmb : m ≤ 65025 := by omega
        have hpb : p ≤ 282 := by omega
        clear hxl hsm HLL
        subst hkn
        have hpI : (27 : Int) + (nl : Int) = (p : Int) := by omega
        have henI : (p : Int) + (m : Int) = (en : Int) := by omega
        have henb : en ≤ 65307 := by omega
        have hpen : p ≤ en := by omega
        have h27p : 27 ≤ p := by omega
        clear hpp henv
        by_cases hsz : en ≤ s.size
        · have heni : (en : Int) ≤ (s.size : Int) := by omega
          have HBY : Hid (bytesOf (s.extract 0 22 ++ ⟨#[0, 0, 0, 0]⟩ ++ s.extract 26 en) = sumL (bytesOf s) en) := by
            show _ = _
            rw [S2.bytesOf_append, S2.bytesOf_append, bytesOf_ext, bytesOf_ext]
            rfl
          have hsz22 : (s.extract 0 22).size = 22 := by rw [ext_len s 0 22 (by omega) (by omega)]
          have hszE : (s.extract 26 en).size = en - 26 := by rw [ext_len s 26 en (by omega) hsz]
          obtain ⟨og, hog⟩ : ∃ og, og = oggN (sumL (bytesOf s) en) := ⟨_, rfl⟩
          obtain ⟨lv, hlv⟩ : ∃ lv, lv = leN (seg (bytesOf s) 22 26) := ⟨_, rfl⟩
          obtain ⟨gr, hgr⟩ : ∃ gr, gr = grN (bytesOf s) := ⟨_, rfl⟩
          rw [← hog, ← hlv, ← hgr] at HONE
          rw [← hgr] at HPG0
          have KO : ∀ wx, Calls Tryd.prog 42 #[.string (s.extract 0 22 ++ ⟨#[0, 0, 0, 0]⟩ ++ s.extract 26 en)] wx fun e w' => e = .returned (.int .i64 (og : Int)) ∧ w' = wx := fun wx => by
            have h := S3.refOgg_spec (s.extract 0 22 ++ ⟨#[0, 0, 0, 0]⟩ ++ s.extract 26 en) (by rw [ByteArray.size_append, ByteArray.size_append, hsz22, hszE]; show 22 + 4 + (en - 26) ≤ _; omega) wx
            have e : S3.c32 (s.extract 0 22 ++ ⟨#[0, 0, 0, 0]⟩ ++ s.extract 26 en) = og := by rw [hog, ← HBY.out]; rfl
            rw [e] at h
            exact h
          have K22 := le4 s 22 (by omega)
          rw [← hlv] at K22
          have KG := le8 s (by omega)
          rw [← hgr] at KG
          have hsl22 : ∀ w, (Instr.slice 9 (.string s) none (some (.int .i64 22)) none).run Tryd.prog w = .ok (.string (s.extract 0 22)) w := slice_upto s 22 (by omega)
          have hsl26 : ∀ w, (Instr.slice 9 (.string s) (some (.int .i64 26)) (some (.int .i64 (en : Int))) none).run Tryd.prog w = .ok (.string (s.extract 26 en)) w := slice_run s 26 en (by omega) hsz
          have hslS : ∀ w, (Instr.slice 9 (.string s) (some (.int .i64 22)) (some (.int .i64 26)) none).run Tryd.prog w = .ok (.string (s.extract 22 26)) w := slice_run s 22 26 (by omega) (by omega)
          have hslG : ∀ w, (Instr.slice 9 (.string s) (some (.int .i64 6)) (some (.int .i64 14)) none).run Tryd.prog w = .ok (.string (s.extract 6 14)) w := slice_run s 6 14 (by omega) (by omega)
          have hslP := slice_run s p en hpen hsz
          have hmx : ¬ (9223372036854775807 : Int) < (22 : Int) + 4 := by decide
          have HGB : Hid (-9223372036854775808 ≤ gr ∧ gr ≤ 9223372036854775807) := by
            show _ ∧ _
            rw [hgr]
            unfold grN
            rw [fromBe_low _ (by rw [seg_length _ _ _ (by rw [bytesOf_length]; omega)])]
            split <;> omega
          have hg1 := HGB.out.1
          have hg2 := HGB.out.2
          have HFF : Hid (seg (bytesOf s) 6 14 = bytesOf (s.extract 6 14)) := (bytesOf_ext s 6 14).symm
          clear hog hlv hgr HBY
          by_cases hol : og = lv
          · have hbo : ((og : Int) != (lv : Int)) = false := by rw [bne_eq_false_iff_eq]; omega
            have HGOOD : Hid ((0 ≤ gr ∨ seg (bytesOf s) 6 14 = ffL) → oneOk (bytesOf s)) := fun q => HONE.out.2 ⟨hsz, hol, q⟩
            have HBAD : Hid (¬ (0 ≤ gr ∨ seg (bytesOf s) 6 14 = ffL) → ¬ oneOk (bytesOf s)) := fun q h => q (HONE.out.1 h).2.2
            clear hol HONE
            go_upto_region 14 with fail
            refine wp_region_held_drew (S := fun wx => Hid (Below w.heap.size w wx)) (by kernel_rfl) (hid (below_on HQ.out.bl HQ.out.bl.size (below_drew _))) (fun hS => ?_)
            refine wpAnyH_take (i := 0) (v := .string s) rfl (by kernel_rfl) (by kernel_rfl) (by kernel_rfl) (fun _ _ _ h => h) (Or.inl ⟨by rfl, fun w hSw => by go_simp⟩) hS ?_
            simp only [Act.put, List.getElem_toArray, List.getElem_cons_succ, List.getElem_cons_zero, List.setIfInBounds_toArray, List.set_cons_zero, List.set_cons_succ]
            refine wpAnyH_take (i := 1) (v := .int .i64 (s.size : Int)) rfl (by kernel_rfl) (by kernel_rfl) (by kernel_rfl) (fun _ _ _ h => h) (Or.inl ⟨by rfl, fun w hSw => by go_simp⟩) hS ?_
            simp only [Act.put, List.getElem_toArray, List.getElem_cons_succ, List.getElem_cons_zero, List.setIfInBounds_toArray, List.set_cons_zero, List.set_cons_succ]
            refine wpAnyH_take (i := 2) (v := .int .i64 (en : Int)) rfl (by kernel_rfl) (by kernel_rfl) (by kernel_rfl) (fun _ _ _ h => h) (Or.inl ⟨by rfl, fun w hSw => by go_simp <;> omega⟩) hS ?_
            simp only [Act.put, List.getElem_toArray, List.getElem_cons_succ, List.getElem_cons_zero, List.setIfInBounds_toArray, List.set_cons_zero, List.set_cons_succ]
            refine wpAnyH_take (i := 3) (v := .bool false) rfl (by kernel_rfl) (by kernel_rfl) (by kernel_rfl) (fun _ _ _ h => h) (Or.inl ⟨by rfl, fun w hSw => by go_simp⟩) hS ?_
            simp only [Act.put, List.getElem_toArray, List.getElem_cons_succ, List.getElem_cons_zero, List.setIfInBounds_toArray, List.set_cons_zero, List.set_cons_succ]
            refine wpAnyH_take (i := 4) (v := .bool false) rfl (by kernel_rfl) (by kernel_rfl) (by kernel_rfl) (fun _ _ _ h => h) (Or.inl ⟨by rfl, fun w hSw => by go_simp⟩) hS ?_
            simp only [Act.put, List.getElem_toArray, List.getElem_cons_succ, List.getElem_cons_zero, List.setIfInBounds_toArray, List.set_cons_zero, List.set_cons_succ]
            refine wpAnyH_take (i := 5) (v := .string s) rfl (by kernel_rfl) (by kernel_rfl) (by kernel_rfl) (fun _ _ _ h => h) (Or.inl ⟨by rfl, fun w hSw => by go_simp⟩) hS ?_
            simp only [Act.put, List.getElem_toArray, List.getElem_cons_succ, List.getElem_cons_zero, List.setIfInBounds_toArray, List.set_cons_zero, List.set_cons_succ]
            refine wpAnyH_take (i := 6) (v := .string (s.extract 0 22)) rfl (by kernel_rfl) (by kernel_rfl) (by kernel_rfl) (fun _ _ _ h => h) (Or.inl ⟨by rfl, fun w hSw => by go_simp⟩) hS ?_
            simp only [Act.put, List.getElem_toArray, List.getElem_cons_succ, List.getElem_cons_zero, List.setIfInBounds_toArray, List.set_cons_zero, List.set_cons_succ]
            refine wpAnyH_take (i := 7) (v := .string (s.extract 0 22 ++ ⟨#[0, 0, 0, 0]⟩)) rfl (by kernel_rfl) (by kernel_rfl) (by kernel_rfl) (fun _ _ _ h => h) (Or.inl ⟨by rfl, fun w hSw => by go_simp <;> omega⟩) hS ?_
            simp only [Act.put, List.getElem_toArray, List.getElem_cons_succ, List.getElem_cons_zero, List.setIfInBounds_toArray, List.set_cons_zero, List.set_cons_succ]
            refine wpAnyH_take (i := 8) (v := .string s) rfl (by kernel_rfl) (by kernel_rfl) (by kernel_rfl) (fun _ _ _ h => h) (Or.inl ⟨by rfl, fun w hSw => by go_simp⟩) hS ?_
            simp only [Act.put, List.getElem_toArray, List.getElem_cons_succ, List.getElem_cons_zero, List.setIfInBounds_toArray, List.set_cons_zero, List.set_cons_succ]
            refine wpAnyH_take (i := 9) (v := .int .i64 (en : Int)) rfl (by kernel_rfl) (by kernel_rfl) (by kernel_rfl) (fun _ _ _ h => h) (Or.inl ⟨by rfl, fun w hSw => by go_simp <;> omega⟩) hS ?_
            simp only [Act.put, List.getElem_toArray, List.getElem_cons_succ, List.getElem_cons_zero, List.setIfInBounds_toArray, List.set_cons_zero, List.set_cons_succ]
            refine wpAnyH_take (i := 10) (v := .string (s.extract 26 en)) rfl (by kernel_rfl) (by kernel_rfl) (by kernel_rfl) (fun _ _ _ h => h) (Or.inl ⟨by rfl, fun w hSw => by go_simp⟩) hS ?_
            simp only [Act.put, List.getElem_toArray, List.getElem_cons_succ, List.getElem_cons_zero, List.setIfInBounds_toArray, List.set_cons_zero, List.set_cons_succ]
            refine wpAnyH_take (i := 11) (v := .string (s.extract 0 22 ++ ⟨#[0, 0, 0, 0]⟩ ++ s.extract 26 en)) rfl (by kernel_rfl) (by kernel_rfl) (by kernel_rfl) (fun _ _ _ h => h) (Or.inl ⟨by rfl, fun w hSw => by go_simp <;> omega⟩) hS ?_
            simp only [Act.put, List.getElem_toArray, List.getElem_cons_succ, List.getElem_cons_zero, List.setIfInBounds_toArray, List.set_cons_zero, List.set_cons_succ]
            refine wpAnyH_take (i := 13) (v := .string s) rfl (by kernel_rfl) (by kernel_rfl) (by kernel_rfl) (fun _ _ _ h => h) (Or.inl ⟨by rfl, fun w hSw => by go_simp⟩) hS ?_
            simp only [Act.put, List.getElem_toArray, List.getElem_cons_succ, List.getElem_cons_zero, List.setIfInBounds_toArray, List.set_cons_zero, List.set_cons_succ]
            refine wpAnyH_take (i := 14) (v := .string (s.extract 22 26)) rfl (by kernel_rfl) (by kernel_rfl) (by kernel_rfl) (fun _ _ _ h => h) (Or.inl ⟨by rfl, fun w hSw => by go_simp⟩) hS ?_
            simp only [Act.put, List.getElem_toArray, List.getElem_cons_succ, List.getElem_cons_zero, List.setIfInBounds_toArray, List.set_cons_zero, List.set_cons_succ]
            refine wpAnyH_ready (rs := [12]) (by kernel_rfl) (by simp) ?_
            refine AllReadyH.cons rfl (fun K hK => ?_) AllReadyH.nil
            go_simp
            refine (KO _).mono ?_
            rintro e w5 ⟨rfl, rfl⟩
            have HQ5 : Hid (LQ w wr.drew g (fl : Int) (se : Int) (sq : Int) 0 (.slice ao xs.length cap) xs) := HQ.out.low (below_drew _)
            generalize wr.drew = w5 at *
            refine hK.out _ _ (hid HQ5.out.bl) (fun hS2 => ?_)
            clear hK K hS HQ
            refine wpAnyH_ready (rs := [15]) (by kernel_rfl) (by simp) ?_
            refine AllReadyH.cons rfl (fun K hK => ?_) AllReadyH.nil
            go_simp
            refine (K22 _).mono ?_
            rintro e w6 ⟨rfl, hb⟩
            have HQ6 : Hid (LQ w w6 g (fl : Int) (se : Int) (sq : Int) 0 (.slice ao xs.length cap) xs) := HQ5.out.low hb
            refine hK.out _ _ (hid HQ6.out.bl) (fun hS3 => ?_)
            clear hK K hS2 HQ5 hb
            refine wpAnyH_take (i := 16) (v := .bool ((og : Int) != (lv : Int))) rfl (by kernel_rfl) (by kernel_rfl) (by kernel_rfl) (fun _ _ _ h => h) (Or.inl ⟨by rfl, fun w hSw => by go_simp⟩) hS3 ?_
            simp only [Act.put, List.getElem_toArray, List.getElem_cons_succ, List.getElem_cons_zero, List.setIfInBounds_toArray, List.set_cons_zero, List.set_cons_succ]
            refine wpAnyH_take (i := 17) (v := .bool ((og : Int) != (lv : Int))) rfl (by kernel_rfl) (by kernel_rfl) (by kernel_rfl) (fun _ _ _ h => h) (Or.inl ⟨by rfl, fun w hSw => by go_simp⟩) hS3 ?_
            simp only [Act.put, List.getElem_toArray, List.getElem_cons_succ, List.getElem_cons_zero, List.setIfInBounds_toArray, List.set_cons_zero, List.set_cons_succ]
            refine wpAnyH_done (by kernel_rfl) ?_ _
            have HPG := hid HPG0.out
            clear KO K22 hsl22 hsl26 hslS hsz22 hszE hmx HPG0
            go_wp2_with fail
            clear hbo
            refine (KG _).mono ?_
            rintro e w7 ⟨rfl, hb⟩
            have HQ7 := hid (HQ6.out.low hb)
            have x3 := HQ7.out.pg.c 3 _ rfl
            have y3 := HQ7.out.pg.fz 3
            clear hb HQ6 KG
            go_upto_region 18 with fail
            have HQ8 := hid (HQ7.out.gran (gr' := gr))
            clear x3 y3 HQ7
            generalize World.setCell w7 _ _ = w8 at *
            by_cases hg0 : 0 ≤ gr
            · have hgd : decide (gr < 0) = false := decide_eq_false (by omega)
              have HG0 := hid hg0
              have H8 : Hid (Box w8 w.heap.size zeroP 49 ∧ Box w8 g #[.int .i64 (fl : Int), .int .i64 (se : Int), .int .i64 (sq : Int), .int .i64 gr, .slice ao xs.length cap] 49 ∧ Below w.heap.size w w8 ∧ w8.ownsRow (g + 1) 3 1 (.slice ao xs.length cap) xs.length (intsC xs) ∧ w.heap.size < g) := ⟨HQ8.out.res, HQ8.out.pg, HQ8.out.bl, HQ8.out.own, HQ8.out.lt⟩
              clear hg0 HBAD HQ8
              go_upto_region 20 with fail
              refine wp_region_held_drew (S := fun wx => Hid (Box wx g #[.int .i64 (fl : Int), .int .i64 (se : Int), .int .i64 (sq : Int), .int .i64 gr, .slice ao xs.length cap] 49)) (by kernel_rfl) (hid H8.out.2.1.drew) (fun hS => ?_)
              refine wpAnyH_take (i := 0) (v := .agg #[.int .i64 (fl : Int), .int .i64 (se : Int), .int .i64 (sq : Int), .int .i64 gr, .slice ao xs.length cap]) rfl (by kernel_rfl) (by kernel_rfl) (by kernel_rfl) (fun _ _ _ h => h) (Or.inl ⟨by rfl, fun w hSw => by have b0 := hSw.out.c 0 _ rfl; have b1 := hSw.out.c 1 _ rfl; have b2 := hSw.out.c 2 _ rfl; have b3 := hSw.out.c 3 _ rfl; have b4 := hSw.out.c 4 _ rfl; go_simp⟩) hS ?_
              simp only [Act.put, List.getElem_toArray, List.getElem_cons_succ, List.getElem_cons_zero, List.setIfInBounds_toArray, List.set_cons_zero, List.set_cons_succ]
              refine wpAnyH_take (i := 1) (v := .string s) rfl (by kernel_rfl) (by kernel_rfl) (by kernel_rfl) (fun _ _ _ h => h) (Or.inl ⟨by rfl, fun w hSw => by go_simp⟩) hS ?_
              simp only [Act.put, List.getElem_toArray, List.getElem_cons_succ, List.getElem_cons_zero, List.setIfInBounds_toArray, List.set_cons_zero, List.set_cons_succ]
              refine wpAnyH_take (i := 2) (v := .int .i64 (nl : Int)) rfl (by kernel_rfl) (by kernel_rfl) (by kernel_rfl) (fun _ _ _ h => h) (Or.inl ⟨by rfl, fun w hSw => by go_simp⟩) hS ?_
              simp only [Act.put, List.getElem_toArray, List.getElem_cons_succ, List.getElem_cons_zero, List.setIfInBounds_toArray, List.set_cons_zero, List.set_cons_succ]
              refine wpAnyH_take (i := 3) (v := .int .i64 (p : Int)) rfl (by kernel_rfl) (by kernel_rfl) (by kernel_rfl) (fun _ _ _ h => h) (Or.inl ⟨by rfl, fun w hSw => by go_simp <;> (first | omega | (rw [IntKind.wrap_i64]; omega))⟩) hS ?_
              simp only [Act.put, List.getElem_toArray, List.getElem_cons_succ, List.getElem_cons_zero, List.setIfInBounds_toArray, List.set_cons_zero, List.set_cons_succ]
              refine wpAnyH_take (i := 4) (v := .int .i64 (en : Int)) rfl (by kernel_rfl) (by kernel_rfl) (by kernel_rfl) (fun _ _ _ h => h) (Or.inl ⟨by rfl, fun w hSw => by go_simp <;> omega⟩) hS ?_
              simp only [Act.put, List.getElem_toArray, List.getElem_cons_succ, List.getElem_cons_zero, List.setIfInBounds_toArray, List.set_cons_zero, List.set_cons_succ]
              refine wpAnyH_take (i := 5) (v := .string (s.extract p en)) rfl (by kernel_rfl) (by kernel_rfl) (by kernel_rfl) (fun _ _ _ h => h) (Or.inl ⟨by rfl, fun w hSw => by go_simp⟩) hS ?_
              simp only [Act.put, List.getElem_toArray, List.getElem_cons_succ, List.getElem_cons_zero, List.setIfInBounds_toArray, List.set_cons_zero, List.set_cons_succ]
              refine wpAnyH_take (i := 6) (v := .int .i64 (en : Int)) rfl (by kernel_rfl) (by kernel_rfl) (by kernel_rfl) (fun _ _ _ h => h) (Or.inl ⟨by rfl, fun w hSw => by go_simp <;> omega⟩) hS ?_
              simp only [Act.put, List.getElem_toArray, List.getElem_cons_succ, List.getElem_cons_zero, List.setIfInBounds_toArray, List.set_cons_zero, List.set_cons_succ]
              refine wpAnyH_ready (rs := [7]) (by kernel_rfl) (by simp) ?_
              refine AllReadyH.cons rfl (fun K hK => ?_) AllReadyH.nil
              rw [if_pos (by rfl)]
              refine wp_store_row 49 (.tmp 2) (.tmp 103) rfl w.heap.size #[.int .i64 (fl : Int), .int .i64 (se : Int), .int .i64 (sq : Int), .int .i64 gr, .slice ao xs.length cap] rfl rfl 49 zeroP H8.out.1.drew.h info_page rfl (by simp [Value.oneCell']) ?_
              have H9 : Hid (Box (w8.drew.setRow w.heap.size #[.int .i64 (fl : Int), .int .i64 (se : Int), .int .i64 (sq : Int), .int .i64 gr, .slice ao xs.length cap]) w.heap.size #[.int .i64 (fl : Int), .int .i64 (se : Int), .int .i64 (sq : Int), .int .i64 gr, .slice ao xs.length cap] 49 ∧ Box (w8.drew.setRow w.heap.size #[.int .i64 (fl : Int), .int .i64 (se : Int), .int .i64 (sq : Int), .int .i64 gr, .slice ao xs.length cap]) g #[.int .i64 (fl : Int), .int .i64 (se : Int), .int .i64 (sq : Int), .int .i64 gr, .slice ao xs.length cap] 49 ∧ Below w.heap.size w (w8.drew.setRow w.heap.size #[.int .i64 (fl : Int), .int .i64 (se : Int), .int .i64 (sq : Int), .int .i64 gr, .slice ao xs.length cap]) ∧ PgAt (w8.drew.setRow w.heap.size #[.int .i64 (fl : Int), .int .i64 (se : Int), .int .i64 (sq : Int), .int .i64 gr, .slice ao xs.length cap]) ⟨(fl : Int), (se : Int), (sq : Int), gr, xs⟩ ao cap ∧ (∀ b, blockOf ao = some b → w.heap.size ≤ b)) := ⟨H8.out.1.drew.set _, H8.out.2.1.drew.other (by have := H8.out.2.2.2.2; omega) _, below_setRow (below_on H8.out.2.2.1 H8.out.2.2.1.size (below_drew _)) (Nat.le_refl _) _, own_pg (owns_setRow (owns_below H8.out.2.2.2.1 (below_drew _)) (by have := H8.out.2.2.2.2; omega) _) rfl rfl (by omega) HXR.out, fun b hb => by have := own_blk H8.out.2.2.2.1 b hb; have := H8.out.2.2.2.2; omega⟩
              generalize World.setRow w8.drew _ _ = w9 at *
              refine hK.out _ _ (hid H9.out.2.1) (fun hS2 => ?_)
              clear hK K hS H8
              refine wpAnyH_take (i := 8) (v := .string (s.extract p en)) rfl (by kernel_rfl) (by kernel_rfl) (by kernel_rfl) (fun _ _ _ h => h) (Or.inl ⟨by rfl, fun w hSw => by go_simp⟩) hS2 ?_
              simp only [Act.put, List.getElem_toArray, List.getElem_cons_succ, List.getElem_cons_zero, List.setIfInBounds_toArray, List.set_cons_zero, List.set_cons_succ]
              refine wpAnyH_take (i := 9) (v := .int .i64 (en : Int)) rfl (by kernel_rfl) (by kernel_rfl) (by kernel_rfl) (fun _ _ _ h => h) (Or.inl ⟨by rfl, fun w hSw => by go_simp⟩) hS2 ?_
              simp only [Act.put, List.getElem_toArray, List.getElem_cons_succ, List.getElem_cons_zero, List.setIfInBounds_toArray, List.set_cons_zero, List.set_cons_succ]
              refine wpAnyH_take (i := 10) (v := .bool true) rfl (by kernel_rfl) (by kernel_rfl) (by kernel_rfl) (fun _ _ _ h => h) (Or.inl ⟨by rfl, fun w hSw => by go_simp⟩) hS2 ?_
              simp only [Act.put, List.getElem_toArray, List.getElem_cons_succ, List.getElem_cons_zero, List.setIfInBounds_toArray, List.set_cons_zero, List.set_cons_succ]
              refine wpAnyH_done (by kernel_rfl) ?_ _
              go_wp2_with fail
              refine bodyPost_ret (v := .tuple #[.agg #[.int .i64 (fl : Int), .int .i64 (se : Int), .int .i64 (sq : Int), .int .i64 gr, .slice ao xs.length cap], .string (s.extract p en), .int .i64 (en : Int), .bool true]) ?_ rfl ⟨⟨fun _ => ⟨ao, cap, by rw [HPG.out, HTX.out.1, HTX.out.2], by rw [HPG.out]; exact H9.out.2.2.2.1, H9.out.2.2.2.2⟩, fun q => absurd (HGOOD.out (.inl HG0.out)) q⟩, H9.out.2.2.1⟩
              rw [results_four rfl]
              have hld := run_loadVar_row (P := Tryd.prog) w9 w.heap.size 49 49 #[.int .i64 (fl : Int), .int .i64 (se : Int), .int .i64 (sq : Int), .int .i64 gr, .slice ao xs.length cap] (0, 0) _ H9.out.1.h Tryd.underlying49 rfl info_page
              simp [asAddr, Result.andThen, hld]
            · have hgd : decide (gr < 0) = true := decide_eq_true (by omega)
              have HG0 := hid hg0
              clear hg0
              cases hff : ((s.extract 6 14).toList == [255, 255, 255, 255, 255, 255, 255, 255])
              · have HNO : Hid (¬ oneOk (bytesOf s)) := HBAD.out (fun q => by
                  rcases q with q | q
                  · exact HG0.out q
                  · rw [HFF.out] at q
                    exact toL_no _ _ hff q)
                clear HBAD HGOOD
                have r0 := (HQ8.out).res.c 0 _ rfl
                have z0 := (HQ8.out).res.fz 0
                have r1 := (HQ8.out).res.c 1 _ rfl
                have z1 := (HQ8.out).res.fz 1
                have r2 := (HQ8.out).res.c 2 _ rfl
                have z2 := (HQ8.out).res.fz 2
                have r3 := (HQ8.out).res.c 3 _ rfl
                have z3 := (HQ8.out).res.fz 3
                have r4 := (HQ8.out).res.c 4 _ rfl
                have z4 := (HQ8.out).res.fz 4
                go_wp2_with fail
                clear r0 r1 r2 r3 r4 z0 z1 z2 z3 z4
                generalize hwf : World.setCell _ _ _ = wf
                have HF : Hid (Box wf w.heap.size zeroP 49 ∧ Below w.heap.size w wf) := by
                  rw [← hwf]
                  exact box5 (HQ8.out.res) (HQ8.out.bl)
                refine bodyPost_ret (v := .tuple #[.agg zeroP, .string ⟨#[]⟩, .int .i64 0, .bool false]) ?_ rfl ⟨⟨fun q => absurd q (HNO.out), fun _ => rfl⟩, HF.out.2⟩
                rw [results_four rfl]
                have hld := run_loadVar_row (P := Tryd.prog) wf w.heap.size 49 49 zeroP (0, 0) _ HF.out.1.h Tryd.underlying49 rfl info_page
                simp [asAddr, Result.andThen, hld]
              · have HF6 : Hid (seg (bytesOf s) 6 14 = ffL) := by
                  show _ = _
                  rw [HFF.out]
                  exact toL _ _ hff
                have H8 : Hid (Box w8 w.heap.size zeroP 49 ∧ Box w8 g #[.int .i64 (fl : Int), .int .i64 (se : Int), .int .i64 (sq : Int), .int .i64 gr, .slice ao xs.length cap] 49 ∧ Below w.heap.size w w8 ∧ w8.ownsRow (g + 1) 3 1 (.slice ao xs.length cap) xs.length (intsC xs) ∧ w.heap.size < g) := ⟨HQ8.out.res, HQ8.out.pg, HQ8.out.bl, HQ8.out.own, HQ8.out.lt⟩
                clear HBAD HQ8
                go_upto_region 20 with fail
                refine wp_region_held_drew (S := fun wx => Hid (Box wx g #[.int .i64 (fl : Int), .int .i64 (se : Int), .int .i64 (sq : Int), .int .i64 gr, .slice ao xs.length cap] 49)) (by kernel_rfl) (hid H8.out.2.1.drew) (fun hS => ?_)
                refine wpAnyH_take (i := 0) (v := .agg #[.int .i64 (fl : Int), .int .i64 (se : Int), .int .i64 (sq : Int), .int .i64 gr, .slice ao xs.length cap]) rfl (by kernel_rfl) (by kernel_rfl) (by kernel_rfl) (fun _ _ _ h => h) (Or.inl ⟨by rfl, fun w hSw => by have b0 := hSw.out.c 0 _ rfl; have b1 := hSw.out.c 1 _ rfl; have b2 := hSw.out.c 2 _ rfl; have b3 := hSw.out.c 3 _ rfl; have b4 := hSw.out.c 4 _ rfl; go_simp⟩) hS ?_
                simp only [Act.put, List.getElem_toArray, List.getElem_cons_succ, List.getElem_cons_zero, List.setIfInBounds_toArray, List.set_cons_zero, List.set_cons_succ]
                refine wpAnyH_take (i := 1) (v := .string s) rfl (by kernel_rfl) (by kernel_rfl) (by kernel_rfl) (fun _ _ _ h => h) (Or.inl ⟨by rfl, fun w hSw => by go_simp⟩) hS ?_
                simp only [Act.put, List.getElem_toArray, List.getElem_cons_succ, List.getElem_cons_zero, List.setIfInBounds_toArray, List.set_cons_zero, List.set_cons_succ]
                refine wpAnyH_take (i := 2) (v := .int .i64 (nl : Int)) rfl (by kernel_rfl) (by kernel_rfl) (by kernel_rfl) (fun _ _ _ h => h) (Or.inl ⟨by rfl, fun w hSw => by go_simp⟩) hS ?_
                simp only [Act.put, List.getElem_toArray, List.getElem_cons_succ, List.getElem_cons_zero, List.setIfInBounds_toArray, List.set_cons_zero, List.set_cons_succ]
                refine wpAnyH_take (i := 3) (v := .int .i64 (p : Int)) rfl (by kernel_rfl) (by kernel_rfl) (by kernel_rfl) (fun _ _ _ h => h) (Or.inl ⟨by rfl, fun w hSw => by go_simp <;> (first | omega | (rw [IntKind.wrap_i64]; omega))⟩) hS ?_
                simp only [Act.put, List.getElem_toArray, List.getElem_cons_succ, List.getElem_cons_zero, List.setIfInBounds_toArray, List.set_cons_zero, List.set_cons_succ]
                refine wpAnyH_take (i := 4) (v := .int .i64 (en : Int)) rfl (by kernel_rfl) (by kernel_rfl) (by kernel_rfl) (fun _ _ _ h => h) (Or.inl ⟨by rfl, fun w hSw => by go_simp <;> omega⟩) hS ?_
                simp only [Act.put, List.getElem_toArray, List.getElem_cons_succ, List.getElem_cons_zero, List.setIfInBounds_toArray, List.set_cons_zero, List.set_cons_succ]
                refine wpAnyH_take (i := 5) (v := .string (s.extract p en)) rfl (by kernel_rfl) (by kernel_rfl) (by kernel_rfl) (fun _ _ _ h => h) (Or.inl ⟨by rfl, fun w hSw => by go_simp⟩) hS ?_
                simp only [Act.put, List.getElem_toArray, List.getElem_cons_succ, List.getElem_cons_zero, List.setIfInBounds_toArray, List.set_cons_zero, List.set_cons_succ]
                refine wpAnyH_take (i := 6) (v := .int .i64 (en : Int)) rfl (by kernel_rfl) (by kernel_rfl) (by kernel_rfl) (fun _ _ _ h => h) (Or.inl ⟨by rfl, fun w hSw => by go_simp <;> omega⟩) hS ?_
                simp only [Act.put, List.getElem_toArray, List.getElem_cons_succ, List.getElem_cons_zero, List.setIfInBounds_toArray, List.set_cons_zero, List.set_cons_succ]
                refine wpAnyH_ready (rs := [7]) (by kernel_rfl) (by simp) ?_
                refine AllReadyH.cons rfl (fun K hK => ?_) AllReadyH.nil
                rw [if_pos (by rfl)]
                refine wp_store_row 49 (.tmp 2) (.tmp 103) rfl w.heap.size #[.int .i64 (fl : Int), .int .i64 (se : Int), .int .i64 (sq : Int), .int .i64 gr, .slice ao xs.length cap] rfl rfl 49 zeroP H8.out.1.drew.h info_page rfl (by simp [Value.oneCell']) ?_
                have H9 : Hid (Box (w8.drew.setRow w.heap.size #[.int .i64 (fl : Int), .int .i64 (se : Int), .int .i64 (sq : Int), .int .i64 gr, .slice ao xs.length cap]) w.heap.size #[.int .i64 (fl : Int), .int .i64 (se : Int), .int .i64 (sq : Int), .int .i64 gr, .slice ao xs.length cap] 49 ∧ Box (w8.drew.setRow w.heap.size #[.int .i64 (fl : Int), .int .i64 (se : Int), .int .i64 (sq : Int), .int .i64 gr, .slice ao xs.length cap]) g #[.int .i64 (fl : Int), .int .i64 (se : Int), .int .i64 (sq : Int), .int .i64 gr, .slice ao xs.length cap] 49 ∧ Below w.heap.size w (w8.drew.setRow w.heap.size #[.int .i64 (fl : Int), .int .i64 (se : Int), .int .i64 (sq : Int), .int .i64 gr, .slice ao xs.length cap]) ∧ PgAt (w8.drew.setRow w.heap.size #[.int .i64 (fl : Int), .int .i64 (se : Int), .int .i64 (sq : Int), .int .i64 gr, .slice ao xs.length cap]) ⟨(fl : Int), (se : Int), (sq : Int), gr, xs⟩ ao cap ∧ (∀ b, blockOf ao = some b → w.heap.size ≤ b)) := ⟨H8.out.1.drew.set _, H8.out.2.1.drew.other (by have := H8.out.2.2.2.2; omega) _, below_setRow (below_on H8.out.2.2.1 H8.out.2.2.1.size (below_drew _)) (Nat.le_refl _) _, own_pg (owns_setRow (owns_below H8.out.2.2.2.1 (below_drew _)) (by have := H8.out.2.2.2.2; omega) _) rfl rfl (by omega) HXR.out, fun b hb => by have := own_blk H8.out.2.2.2.1 b hb; have := H8.out.2.2.2.2; omega⟩
                generalize World.setRow w8.drew _ _ = w9 at *
                refine hK.out _ _ (hid H9.out.2.1) (fun hS2 => ?_)
                clear hK K hS H8
                refine wpAnyH_take (i := 8) (v := .string (s.extract p en)) rfl (by kernel_rfl) (by kernel_rfl) (by kernel_rfl) (fun _ _ _ h => h) (Or.inl ⟨by rfl, fun w hSw => by go_simp⟩) hS2 ?_
                simp only [Act.put, List.getElem_toArray, List.getElem_cons_succ, List.getElem_cons_zero, List.setIfInBounds_toArray, List.set_cons_zero, List.set_cons_succ]
                refine wpAnyH_take (i := 9) (v := .int .i64 (en : Int)) rfl (by kernel_rfl) (by kernel_rfl) (by kernel_rfl) (fun _ _ _ h => h) (Or.inl ⟨by rfl, fun w hSw => by go_simp⟩) hS2 ?_
                simp only [Act.put, List.getElem_toArray, List.getElem_cons_succ, List.getElem_cons_zero, List.setIfInBounds_toArray, List.set_cons_zero, List.set_cons_succ]
                refine wpAnyH_take (i := 10) (v := .bool true) rfl (by kernel_rfl) (by kernel_rfl) (by kernel_rfl) (fun _ _ _ h => h) (Or.inl ⟨by rfl, fun w hSw => by go_simp⟩) hS2 ?_
                simp only [Act.put, List.getElem_toArray, List.getElem_cons_succ, List.getElem_cons_zero, List.setIfInBounds_toArray, List.set_cons_zero, List.set_cons_succ]
                refine wpAnyH_done (by kernel_rfl) ?_ _
                go_wp2_with fail
                refine bodyPost_ret (v := .tuple #[.agg #[.int .i64 (fl : Int), .int .i64 (se : Int), .int .i64 (sq : Int), .int .i64 gr, .slice ao xs.length cap], .string (s.extract p en), .int .i64 (en : Int), .bool true]) ?_ rfl ⟨⟨fun _ => ⟨ao, cap, by rw [HPG.out, HTX.out.1, HTX.out.2], by rw [HPG.out]; exact H9.out.2.2.2.1, H9.out.2.2.2.2⟩, fun q => absurd (HGOOD.out (.inr HF6.out)) q⟩, H9.out.2.2.1⟩
                rw [results_four rfl]
                have hld := run_loadVar_row (P := Tryd.prog) w9 w.heap.size 49 49 #[.int .i64 (fl : Int), .int .i64 (se : Int), .int .i64 (sq : Int), .int .i64 gr, .slice ao xs.length cap] (0, 0) _ H9.out.1.h Tryd.underlying49 rfl info_page
                simp [asAddr, Result.andThen, hld]
          · have hbo : ((og : Int) != (lv : Int)) = true := by rw [bne_iff_ne]; omega
            have HNO : Hid (¬ oneOk (bytesOf s)) := fun h => hol (HONE.out.1 h).2.1
            clear hol HONE
            go_upto_region 14 with fail
            refine wp_region_held_drew (S := fun wx => Hid (Below w.heap.size w wx)) (by kernel_rfl) (hid (below_on HQ.out.bl HQ.out.bl.size (below_drew _))) (fun hS => ?_)
            refine wpAnyH_take (i := 0) (v := .string s) rfl (by kernel_rfl) (by kernel_rfl) (by kernel_rfl) (fun _ _ _ h => h) (Or.inl ⟨by rfl, fun w hSw => by go_simp⟩) hS ?_
            simp only [Act.put, List.getElem_toArray, List.getElem_cons_succ, List.getElem_cons_zero, List.setIfInBounds_toArray, List.set_cons_zero, List.set_cons_succ]
            refine wpAnyH_take (i := 1) (v := .int .i64 (s.size : Int)) rfl (by kernel_rfl) (by kernel_rfl) (by kernel_rfl) (fun _ _ _ h => h) (Or.inl ⟨by rfl, fun w hSw => by go_simp⟩) hS ?_
            simp only [Act.put, List.getElem_toArray, List.getElem_cons_succ, List.getElem_cons_zero, List.setIfInBounds_toArray, List.set_cons_zero, List.set_cons_succ]
            refine wpAnyH_take (i := 2) (v := .int .i64 (en : Int)) rfl (by kernel_rfl) (by kernel_rfl) (by kernel_rfl) (fun _ _ _ h => h) (Or.inl ⟨by rfl, fun w hSw => by go_simp <;> omega⟩) hS ?_
            simp only [Act.put, List.getElem_toArray, List.getElem_cons_succ, List.getElem_cons_zero, List.setIfInBounds_toArray, List.set_cons_zero, List.set_cons_succ]
            refine wpAnyH_take (i := 3) (v := .bool false) rfl (by kernel_rfl) (by kernel_rfl) (by kernel_rfl) (fun _ _ _ h => h) (Or.inl ⟨by rfl, fun w hSw => by go_simp⟩) hS ?_
            simp only [Act.put, List.getElem_toArray, List.getElem_cons_succ, List.getElem_cons_zero, List.setIfInBounds_toArray, List.set_cons_zero, List.set_cons_succ]
            refine wpAnyH_take (i := 4) (v := .bool false) rfl (by kernel_rfl) (by kernel_rfl) (by kernel_rfl) (fun _ _ _ h => h) (Or.inl ⟨by rfl, fun w hSw => by go_simp⟩) hS ?_
            simp only [Act.put, List.getElem_toArray, List.getElem_cons_succ, List.getElem_cons_zero, List.setIfInBounds_toArray, List.set_cons_zero, List.set_cons_succ]
            refine wpAnyH_take (i := 5) (v := .string s) rfl (by kernel_rfl) (by kernel_rfl) (by kernel_rfl) (fun _ _ _ h => h) (Or.inl ⟨by rfl, fun w hSw => by go_simp⟩) hS ?_
            simp only [Act.put, List.getElem_toArray, List.getElem_cons_succ, List.getElem_cons_zero, List.setIfInBounds_toArray, List.set_cons_zero, List.set_cons_succ]
            refine wpAnyH_take (i := 6) (v := .string (s.extract 0 22)) rfl (by kernel_rfl) (by kernel_rfl) (by kernel_rfl) (fun _ _ _ h => h) (Or.inl ⟨by rfl, fun w hSw => by go_simp⟩) hS ?_
            simp only [Act.put, List.getElem_toArray, List.getElem_cons_succ, List.getElem_cons_zero, List.setIfInBounds_toArray, List.set_cons_zero, List.set_cons_succ]
            refine wpAnyH_take (i := 7) (v := .string (s.extract 0 22 ++ ⟨#[0, 0, 0, 0]⟩)) rfl (by kernel_rfl) (by kernel_rfl) (by kernel_rfl) (fun _ _ _ h => h) (Or.inl ⟨by rfl, fun w hSw => by go_simp <;> omega⟩) hS ?_
            simp only [Act.put, List.getElem_toArray, List.getElem_cons_succ, List.getElem_cons_zero, List.setIfInBounds_toArray, List.set_cons_zero, List.set_cons_succ]
            refine wpAnyH_take (i := 8) (v := .string s) rfl (by kernel_rfl) (by kernel_rfl) (by kernel_rfl) (fun _ _ _ h => h) (Or.inl ⟨by rfl, fun w hSw => by go_simp⟩) hS ?_
            simp only [Act.put, List.getElem_toArray, List.getElem_cons_succ, List.getElem_cons_zero, List.setIfInBounds_toArray, List.set_cons_zero, List.set_cons_succ]
            refine wpAnyH_take (i := 9) (v := .int .i64 (en : Int)) rfl (by kernel_rfl) (by kernel_rfl) (by kernel_rfl) (fun _ _ _ h => h) (Or.inl ⟨by rfl, fun w hSw => by go_simp <;> omega⟩) hS ?_
            simp only [Act.put, List.getElem_toArray, List.getElem_cons_succ, List.getElem_cons_zero, List.setIfInBounds_toArray, List.set_cons_zero, List.set_cons_succ]
            refine wpAnyH_take (i := 10) (v := .string (s.extract 26 en)) rfl (by kernel_rfl) (by kernel_rfl) (by kernel_rfl) (fun _ _ _ h => h) (Or.inl ⟨by rfl, fun w hSw => by go_simp⟩) hS ?_
            simp only [Act.put, List.getElem_toArray, List.getElem_cons_succ, List.getElem_cons_zero, List.setIfInBounds_toArray, List.set_cons_zero, List.set_cons_succ]
            refine wpAnyH_take (i := 11) (v := .string (s.extract 0 22 ++ ⟨#[0, 0, 0, 0]⟩ ++ s.extract 26 en)) rfl (by kernel_rfl) (by kernel_rfl) (by kernel_rfl) (fun _ _ _ h => h) (Or.inl ⟨by rfl, fun w hSw => by go_simp <;> omega⟩) hS ?_
            simp only [Act.put, List.getElem_toArray, List.getElem_cons_succ, List.getElem_cons_zero, List.setIfInBounds_toArray, List.set_cons_zero, List.set_cons_succ]
            refine wpAnyH_take (i := 13) (v := .string s) rfl (by kernel_rfl) (by kernel_rfl) (by kernel_rfl) (fun _ _ _ h => h) (Or.inl ⟨by rfl, fun w hSw => by go_simp⟩) hS ?_
            simp only [Act.put, List.getElem_toArray, List.getElem_cons_succ, List.getElem_cons_zero, List.setIfInBounds_toArray, List.set_cons_zero, List.set_cons_succ]
            refine wpAnyH_take (i := 14) (v := .string (s.extract 22 26)) rfl (by kernel_rfl) (by kernel_rfl) (by kernel_rfl) (fun _ _ _ h => h) (Or.inl ⟨by rfl, fun w hSw => by go_simp⟩) hS ?_
            simp only [Act.put, List.getElem_toArray, List.getElem_cons_succ, List.getElem_cons_zero, List.setIfInBounds_toArray, List.set_cons_zero, List.set_cons_succ]
            refine wpAnyH_ready (rs := [12]) (by kernel_rfl) (by simp) ?_
            refine AllReadyH.cons rfl (fun K hK => ?_) AllReadyH.nil
            go_simp
            refine (KO _).mono ?_
            rintro e w5 ⟨rfl, rfl⟩
            have HQ5 : Hid (LQ w wr.drew g (fl : Int) (se : Int) (sq : Int) 0 (.slice ao xs.length cap) xs) := HQ.out.low (below_drew _)
            generalize wr.drew = w5 at *
            refine hK.out _ _ (hid HQ5.out.bl) (fun hS2 => ?_)
            clear hK K hS HQ
            refine wpAnyH_ready (rs := [15]) (by kernel_rfl) (by simp) ?_
            refine AllReadyH.cons rfl (fun K hK => ?_) AllReadyH.nil
            go_simp
            refine (K22 _).mono ?_
            rintro e w6 ⟨rfl, hb⟩
            have HQ6 : Hid (LQ w w6 g (fl : Int) (se : Int) (sq : Int) 0 (.slice ao xs.length cap) xs) := HQ5.out.low hb
            refine hK.out _ _ (hid HQ6.out.bl) (fun hS3 => ?_)
            clear hK K hS2 HQ5 hb
            refine wpAnyH_take (i := 16) (v := .bool ((og : Int) != (lv : Int))) rfl (by kernel_rfl) (by kernel_rfl) (by kernel_rfl) (fun _ _ _ h => h) (Or.inl ⟨by rfl, fun w hSw => by go_simp⟩) hS3 ?_
            simp only [Act.put, List.getElem_toArray, List.getElem_cons_succ, List.getElem_cons_zero, List.setIfInBounds_toArray, List.set_cons_zero, List.set_cons_succ]
            refine wpAnyH_take (i := 17) (v := .bool ((og : Int) != (lv : Int))) rfl (by kernel_rfl) (by kernel_rfl) (by kernel_rfl) (fun _ _ _ h => h) (Or.inl ⟨by rfl, fun w hSw => by go_simp⟩) hS3 ?_
            simp only [Act.put, List.getElem_toArray, List.getElem_cons_succ, List.getElem_cons_zero, List.setIfInBounds_toArray, List.set_cons_zero, List.set_cons_succ]
            refine wpAnyH_done (by kernel_rfl) ?_ _
            have r0 := (HQ6.out).res.c 0 _ rfl
            have z0 := (HQ6.out).res.fz 0
            have r1 := (HQ6.out).res.c 1 _ rfl
            have z1 := (HQ6.out).res.fz 1
            have r2 := (HQ6.out).res.c 2 _ rfl
            have z2 := (HQ6.out).res.fz 2
            have r3 := (HQ6.out).res.c 3 _ rfl
            have z3 := (HQ6.out).res.fz 3
            have r4 := (HQ6.out).res.c 4 _ rfl
            have z4 := (HQ6.out).res.fz 4
            go_wp2_with fail
            clear r0 r1 r2 r3 r4 z0 z1 z2 z3 z4
            generalize hwf : World.setCell _ _ _ = wf
            have HF : Hid (Box wf w.heap.size zeroP 49 ∧ Below w.heap.size w wf) := by
              rw [← hwf]
              exact box5 (HQ6.out.res) (HQ6.out.bl)
            refine bodyPost_ret (v := .tuple #[.agg zeroP, .string ⟨#[]⟩, .int .i64 0, .bool false]) ?_ rfl ⟨⟨fun q => absurd q (HNO.out), fun _ => rfl⟩, HF.out.2⟩
            rw [results_four rfl]
            have hld := run_loadVar_row (P := Tryd.prog) wf w.heap.size 49 49 zeroP (0, 0) _ HF.out.1.h Tryd.underlying49 rfl info_page
            simp [asAddr, Result.andThen, hld]
        · have heni : (s.size : Int) < (en : Int) := by omega
          have HNO : Hid (¬ oneOk (bytesOf s)) := fun h => hsz (HONE.out.1 h).1
          clear hsz HONE
          go_upto_region 14 with fail
          refine wp_region_held_drew (S := fun wx => Hid (Below w.heap.size w wx)) (by kernel_rfl) (hid (below_on HQ.out.bl HQ.out.bl.size (below_drew _))) (fun hS => ?_)
          refine wpAnyH_take (i := 0) (v := .string s) rfl (by kernel_rfl) (by kernel_rfl) (by kernel_rfl) (fun _ _ _ h => h) (Or.inl ⟨by rfl, fun w hSw => by go_simp⟩) hS ?_
          simp only [Act.put, List.getElem_toArray, List.getElem_cons_succ, List.getElem_cons_zero, List.setIfInBounds_toArray, List.set_cons_zero, List.set_cons_succ]
          refine wpAnyH_take (i := 1) (v := .int .i64 (s.size : Int)) rfl (by kernel_rfl) (by kernel_rfl) (by kernel_rfl) (fun _ _ _ h => h) (Or.inl ⟨by rfl, fun w hSw => by go_simp⟩) hS ?_
          simp only [Act.put, List.getElem_toArray, List.getElem_cons_succ, List.getElem_cons_zero, List.setIfInBounds_toArray, List.set_cons_zero, List.set_cons_succ]
          refine wpAnyH_take (i := 2) (v := .int .i64 (en : Int)) rfl (by kernel_rfl) (by kernel_rfl) (by kernel_rfl) (fun _ _ _ h => h) (Or.inl ⟨by rfl, fun w hSw => by go_simp <;> omega⟩) hS ?_
          simp only [Act.put, List.getElem_toArray, List.getElem_cons_succ, List.getElem_cons_zero, List.setIfInBounds_toArray, List.set_cons_zero, List.set_cons_succ]
          refine wpAnyH_take (i := 3) (v := .bool true) rfl (by kernel_rfl) (by kernel_rfl) (by kernel_rfl) (fun _ _ _ h => h) (Or.inl ⟨by rfl, fun w hSw => by go_simp⟩) hS ?_
          simp only [Act.put, List.getElem_toArray, List.getElem_cons_succ, List.getElem_cons_zero, List.setIfInBounds_toArray, List.set_cons_zero, List.set_cons_succ]
          refine wpAnyH_take (i := 4) (v := .bool true) rfl (by kernel_rfl) (by kernel_rfl) (by kernel_rfl) (fun _ _ _ h => h) (Or.inl ⟨by rfl, fun w hSw => by go_simp⟩) hS ?_
          simp only [Act.put, List.getElem_toArray, List.getElem_cons_succ, List.getElem_cons_zero, List.setIfInBounds_toArray, List.set_cons_zero, List.set_cons_succ]
          refine wpAnyH_take (i := 5) (v := undef) rfl (by kernel_rfl) (by kernel_rfl) (by kernel_rfl) (fun _ _ _ h => h) (Or.inr ⟨by rfl, rfl⟩) hS ?_
          simp only [Act.put, List.getElem_toArray, List.getElem_cons_succ, List.getElem_cons_zero, List.setIfInBounds_toArray, List.set_cons_zero, List.set_cons_succ]
          refine wpAnyH_take (i := 6) (v := undef) rfl (by kernel_rfl) (by kernel_rfl) (by kernel_rfl) (fun _ _ _ h => h) (Or.inr ⟨by rfl, rfl⟩) hS ?_
          simp only [Act.put, List.getElem_toArray, List.getElem_cons_succ, List.getElem_cons_zero, List.setIfInBounds_toArray, List.set_cons_zero, List.set_cons_succ]
          refine wpAnyH_take (i := 7) (v := undef) rfl (by kernel_rfl) (by kernel_rfl) (by kernel_rfl) (fun _ _ _ h => h) (Or.inr ⟨by rfl, rfl⟩) hS ?_
          simp only [Act.put, List.getElem_toArray, List.getElem_cons_succ, List.getElem_cons_zero, List.setIfInBounds_toArray, List.set_cons_zero, List.set_cons_succ]
          refine wpAnyH_take (i := 8) (v := undef) rfl (by kernel_rfl) (by kernel_rfl) (by kernel_rfl) (fun _ _ _ h => h) (Or.inr ⟨by rfl, rfl⟩) hS ?_
          simp only [Act.put, List.getElem_toArray, List.getElem_cons_succ, List.getElem_cons_zero, List.setIfInBounds_toArray, List.set_cons_zero, List.set_cons_succ]
          refine wpAnyH_take (i := 9) (v := undef) rfl (by kernel_rfl) (by kernel_rfl) (by kernel_rfl) (fun _ _ _ h => h) (Or.inr ⟨by rfl, rfl⟩) hS ?_
          simp only [Act.put, List.getElem_toArray, List.getElem_cons_succ, List.getElem_cons_zero, List.setIfInBounds_toArray, List.set_cons_zero, List.set_cons_succ]
          refine wpAnyH_take (i := 10) (v := undef) rfl (by kernel_rfl) (by kernel_rfl) (by kernel_rfl) (fun _ _ _ h => h) (Or.inr ⟨by rfl, rfl⟩) hS ?_
          simp only [Act.put, List.getElem_toArray, List.getElem_cons_succ, List.getElem_cons_zero, List.setIfInBounds_toArray, List.set_cons_zero, List.set_cons_succ]
          refine wpAnyH_take (i := 11) (v := undef) rfl (by kernel_rfl) (by kernel_rfl) (by kernel_rfl) (fun _ _ _ h => h) (Or.inr ⟨by rfl, rfl⟩) hS ?_
          simp only [Act.put, List.getElem_toArray, List.getElem_cons_succ, List.getElem_cons_zero, List.setIfInBounds_toArray, List.set_cons_zero, List.set_cons_succ]
          refine wpAnyH_take (i := 12) (v := undef) rfl (by kernel_rfl) (by kernel_rfl) (by kernel_rfl) (fun _ _ _ h => h) (Or.inr ⟨by rfl, rfl⟩) hS ?_
          simp only [Act.put, List.getElem_toArray, List.getElem_cons_succ, List.getElem_cons_zero, List.setIfInBounds_toArray, List.set_cons_zero, List.set_cons_succ]
          refine wpAnyH_take (i := 13) (v := undef) rfl (by kernel_rfl) (by kernel_rfl) (by kernel_rfl) (fun _ _ _ h => h) (Or.inr ⟨by rfl, rfl⟩) hS ?_
          simp only [Act.put, List.getElem_toArray, List.getElem_cons_succ, List.getElem_cons_zero, List.setIfInBounds_toArray, List.set_cons_zero, List.set_cons_succ]
          refine wpAnyH_take (i := 14) (v := undef) rfl (by kernel_rfl) (by kernel_rfl) (by kernel_rfl) (fun _ _ _ h => h) (Or.inr ⟨by rfl, rfl⟩) hS ?_
          simp only [Act.put, List.getElem_toArray, List.getElem_cons_succ, List.getElem_cons_zero, List.setIfInBounds_toArray, List.set_cons_zero, List.set_cons_succ]
          refine wpAnyH_take (i := 15) (v := undef) rfl (by kernel_rfl) (by kernel_rfl) (by kernel_rfl) (fun _ _ _ h => h) (Or.inr ⟨by rfl, rfl⟩) hS ?_
          simp only [Act.put, List.getElem_toArray, List.getElem_cons_succ, List.getElem_cons_zero, List.setIfInBounds_toArray, List.set_cons_zero, List.set_cons_succ]
          refine wpAnyH_take (i := 16) (v := undef) rfl (by kernel_rfl) (by kernel_rfl) (by kernel_rfl) (fun _ _ _ h => h) (Or.inr ⟨by rfl, rfl⟩) hS ?_
          simp only [Act.put, List.getElem_toArray, List.getElem_cons_succ, List.getElem_cons_zero, List.setIfInBounds_toArray, List.set_cons_zero, List.set_cons_succ]
          refine wpAnyH_take (i := 17) (v := .bool true) rfl (by kernel_rfl) (by kernel_rfl) (by kernel_rfl) (fun _ _ _ h => h) (Or.inl ⟨by rfl, fun w hSw => by go_simp⟩) hS ?_
          simp only [Act.put, List.getElem_toArray, List.getElem_cons_succ, List.getElem_cons_zero, List.setIfInBounds_toArray, List.set_cons_zero, List.set_cons_succ]
          refine wpAnyH_done (by kernel_rfl) ?_ _
          have HQ6 := hid (HQ.out.low (below_drew wr))
          clear HQ
          generalize wr.drew = w6 at *
          have r0 := (HQ6.out).res.c 0 _ rfl
          have z0 := (HQ6.out).res.fz 0
          have r1 := (HQ6.out).res.c 1 _ rfl
          have z1 := (HQ6.out).res.fz 1
          have r2 := (HQ6.out).res.c 2 _ rfl
          have z2 := (HQ6.out).res.fz 2
          have r3 := (HQ6.out).res.c 3 _ rfl
          have z3 := (HQ6.out).res.fz 3
          have r4 := (HQ6.out).res.c 4 _ rfl
          have z4 := (HQ6.out).res.fz 4
          go_wp2_with fail
          clear r0 r1 r2 r3 r4 z0 z1 z2 z3 z4
          generalize hwf : World.setCell _ _ _ = wf
          have HF : Hid (Box wf w.heap.size zeroP 49 ∧ Below w.heap.size w wf) := by
            rw [← hwf]
            exact box5 (HQ6.out.res) (HQ6.out.bl)
          refine bodyPost_ret (v := .tuple #[.agg zeroP, .string ⟨#[]⟩, .int .i64 0, .bool false]) ?_ rfl ⟨⟨fun q => absurd q (HNO.out), fun _ => rfl⟩, HF.out.2⟩
          rw [results_four rfl]
          have hld := run_loadVar_row (P := Tryd.prog) wf w.heap.size 49 49 zeroP (0, 0) _ HF.out.1.h Tryd.underlying49 rfl info_page
          simp [asAddr, Result.andThen, hld]

end Go.Proofs.YtjkamannjgcmiaaDoor

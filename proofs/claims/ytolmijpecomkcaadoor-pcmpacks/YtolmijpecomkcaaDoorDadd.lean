/- Own text: the walk of the program's 'Add': t stands behind what was added. -/
import Derived.Test.YtolmijpecomkcaaDoorDcopy
namespace Go.Proofs.YtolmijpecomkcaaDoor.Dg
open Go.RowKit
set_option linter.unusedSimpArgs false
set_option linter.unusedVariables false

/-- What stays from round to round. -/
structure AddI (B : Nat) (w0 : World) (p : Nat) (l : List Nat) (w : World) : Prop where
  st : St B w p l
  tabs : TabsAt w
  below : Below B w0 w

def strSize : Value → Nat
  | .string t => t.size
  | _ => 0

theorem none_of_size (t : ByteArray) (h : t.size = 0) : t = ⟨#[]⟩ := by
  obtain ⟨d⟩ := t
  have : d.size = 0 := h
  rw [Array.eq_empty_of_size_eq_zero this]

theorem not_none (t : ByteArray) (h : ¬ t.size = 0) : t.toList.isEmpty = false := by
  rw [ByteArray.toList_eq]
  obtain ⟨⟨l⟩⟩ := t
  cases l with
  | nil => exact absurd rfl h
  | cons a b => rfl

/-- The sum and the tables, somewhere on the way through a round. -/
structure Way (B : Nat) (w0 : World) (p : Nat) (q : Reg4) (f : Nat → Nat) (n : Nat) (w : World) : Prop where
  sum : SumAt w p q f n
  tabs : TabsAt w
  below : Below B w0 w
  le : B ≤ p
theorem Way.drew {B : Nat} {w0 : World} {p : Nat} {q : Reg4} {f : Nat → Nat} {n : Nat} {w : World} (h : Way B w0 p q f n w) : Way B w0 p q f n w.drew :=
  ⟨h.sum, ⟨h.tabs.sines, h.tabs.turns⟩, h.below.drew, h.le⟩
theorem Way.next {B : Nat} {w0 : World} {p : Nat} {q : Reg4} {f : Nat → Nat} {n : Nat} {w w' : World} (h : Way B w0 p q f n w) (hB : Below w.heap.size w w') : Way B w0 p q f n w' :=
  ⟨h.sum.kept (hB.block p h.sum.lt), h.tabs.below h.tabs.two hB, h.below.trans (hB.mono (Nat.le_trans h.le (Nat.le_of_lt h.sum.lt))), h.le⟩
theorem Way.row {B : Nat} {w0 : World} {p : Nat} {q : Reg4} {f : Nat → Nat} {n : Nat} {w : World} (h : Way B w0 p q f n w) (q' : Reg4) (f' : Nat → Nat) (n' : Nat) : Way B w0 p q' f' n' (w.setRow p (sumV q' f' n')) := by
  have h2 := h.sum.two h.tabs
  have hb : Below p w (w.setRow p (sumV q' f' n')) := ⟨rfl, rfl, rfl, by simp, fun k hk => setRow_other _ _ _ _ (by omega)⟩
  exact ⟨setRow_heap _ _ _ _ _ _ h.sum, h.tabs.other p h2 (fun k hk => setRow_other _ _ _ _ (by omega)), h.below.trans (hb.mono h.le), h.le⟩
theorem Way.len {B : Nat} {w0 : World} {p : Nat} {q : Reg4} {f : Nat → Nat} {n : Nat} {w : World} (h : Way B w0 p q f n w) (n' : Nat) : Way B w0 p q f n' (w.setCell ⟨p, 68, none⟩ (.int .i64 (n' : Int))) := by
  have e : (sumV q f n).setIfInBounds 68 (.int .i64 (n' : Int)) = sumV q f n' := by
    refine sumV_ext _ _ _ _ (by rw [Array.size_setIfInBounds, sumV_size]) (fun j hj => ?_) (fun j hj => ?_) ?_
    · rw [Array.getElem?_setIfInBounds, if_neg (by omega), sumV_reg _ _ _ _ hj]
    · rw [Array.getElem?_setIfInBounds, if_neg (by omega), sumV_block _ _ _ _ hj]
    · rw [Array.getElem?_setIfInBounds, if_pos rfl, if_pos (by rw [sumV_size]; decide)]
  rw [setCell_eq_setRow _ _ _ _ _ _ _ h.sum, e]
  exact h.row q f n'
theorem setRow_four (w : World) (p : Nat) (C : Array Value) (t : TypeId) (h : w.heap[p]? = some (.cells C t (0, 0))) (a b c d : Value) :
    (((w.setCell ⟨p, 0, none⟩ a).setCell ⟨p, 1, none⟩ b).setCell ⟨p, 2, none⟩ c).setCell ⟨p, 3, none⟩ d = w.setRow p ((((C.setIfInBounds 0 a).setIfInBounds 1 b).setIfInBounds 2 c).setIfInBounds 3 d) := by
  rw [setCell_eq_setRow w p 0 C t (0, 0) a h, setCell_eq_setRow _ p 1 _ t (0, 0) b (setRow_heap _ _ _ _ _ _ h), setRow_setRow, setCell_eq_setRow _ p 2 _ t (0, 0) c (setRow_heap _ _ _ _ _ _ h), setRow_setRow, setCell_eq_setRow _ p 3 _ t (0, 0) d (setRow_heap _ _ _ _ _ _ h), setRow_setRow]
theorem Way.regs {B : Nat} {w0 : World} {p : Nat} {q : Reg4} {f : Nat → Nat} {n : Nat} {w : World} (h : Way B w0 p q f n w) (q' : Reg4) :
    Way B w0 p q' f n ((((w.setCell ⟨p, 0, none⟩ (.int .u32 (q'.a.toNat : Int))).setCell ⟨p, 1, none⟩ (.int .u32 (q'.b.toNat : Int))).setCell ⟨p, 2, none⟩ (.int .u32 (q'.c.toNat : Int))).setCell ⟨p, 3, none⟩ (.int .u32 (q'.d.toNat : Int))) := by
  have e : ((((sumV q f n).setIfInBounds 0 (.int .u32 (q'.a.toNat : Int))).setIfInBounds 1 (.int .u32 (q'.b.toNat : Int))).setIfInBounds 2 (.int .u32 (q'.c.toNat : Int))).setIfInBounds 3 (.int .u32 (q'.d.toNat : Int)) = sumV q' f n := by
    refine sumV_ext _ _ _ _ (by simp [sumV_size]) (fun j hj => ?_) (fun j hj => ?_) ?_
    · rcases j with _ | _ | _ | _ | j
      · simp [Array.getElem?_setIfInBounds, sumV_size]
      · simp [Array.getElem?_setIfInBounds, sumV_size]
      · simp [Array.getElem?_setIfInBounds, sumV_size]
      · simp [Array.getElem?_setIfInBounds, sumV_size]
      · omega
    · rw [Array.getElem?_setIfInBounds, if_neg (by omega), Array.getElem?_setIfInBounds, if_neg (by omega), Array.getElem?_setIfInBounds, if_neg (by omega), Array.getElem?_setIfInBounds, if_neg (by omega), sumV_block _ _ _ _ hj]
    · rw [Array.getElem?_setIfInBounds, if_neg (by omega), Array.getElem?_setIfInBounds, if_neg (by omega), Array.getElem?_setIfInBounds, if_neg (by omega), Array.getElem?_setIfInBounds, if_neg (by omega), sumV_len]
  have hr := h.row q' f n
  rw [← e, ← setRow_four w p (sumV q f n) 87 h.sum] at hr
  exact hr

theorem AddI.way {B : Nat} {w0 : World} {p : Nat} {l : List Nat} {w : World} (h : AddI B w0 p l w) : ∃ f : Nat → Nat, (∀ j, f j < 256) ∧ (∀ j, j < l.length % 64 → f j = (left l).getD j 0) ∧ Way B w0 p (soFar l) f l.length w := by
  obtain ⟨h1, f, h2, h3, h4⟩ := h.st
  exact ⟨f, h2, h3, h4, h.tabs, h.below, h1⟩

theorem range_of {w : World} {p : Nat} {q : Reg4} {f : Nat → Nat} {n : Nat} (h : SumAt w p q f n) : w.rangeAt p 4 ((List.range 64).map fun j => Value.int .u8 (f j : Int)) := fun j v hv => by
  have hj : j < 64 := by
    have := (List.getElem?_eq_some_iff.1 hv).1
    simpa using this
  rw [h.cb j hj]
  simp [hj] at hv
  rw [hv]

/-- Behind a round. -/
theorem round_end {B : Nat} {w0 : World} {p : Nat} (L : List Nat) (f : Nat → Nat) (t : ByteArray) (r c : Nat) (hr : L.length % 64 = r) (hc : min t.size (64 - r) = c) (hf : ∀ j, f j < 256) (hfl : ∀ j, j < L.length % 64 → f j = (left L).getD j 0) (w' : World)
    (h : Way B w0 p (if r + c < 64 then soFar L else mblock (soFar L) (blockL (copied f t r c))) (copied f t r c) (L.length + c) w') : AddI B w0 p (L ++ (bytesOf t).take c) w' := by
  have hlen : (L ++ (bytesOf t).take c).length = L.length + c := by
    rw [List.length_append, List.length_take, bytesOf_length]
    omega
  have hq : soFar (L ++ (bytesOf t).take c) = (if r + c < 64 then soFar L else mblock (soFar L) (blockL (copied f t r c))) ∧ ∀ j, j < (L ++ (bytesOf t).take c).length % 64 → copied f t r c j = (left (L ++ (bytesOf t).take c)).getD j 0 := by
    by_cases hlt : r + t.size < 64
    · obtain rfl : c = t.size := by omega
      rw [if_pos hlt]
      have := keep_state L f hfl t (by omega)
      rw [hr] at this
      exact this
    · obtain rfl : c = 64 - r := by omega
      have := full_state L f hfl t (by omega)
      rw [hr] at this
      rw [if_neg (by omega)]
      exact ⟨this.1, fun j hj => by rw [this.2] at hj; exact absurd hj (Nat.not_lt_zero _)⟩
  refine ⟨⟨h.le, copied f t r c, fun j => copied_lt f hf t r c j, hq.2, ?_⟩, h.tabs, h.below⟩
  rw [hq.1, hlen]
  exact h.sum

set_option maxRecDepth 20000 in
set_option maxHeartbeats 4000000 in
theorem add_spec (w : World) (B p : Nat) (l : List Nat) (s : ByteArray) (hT : TabsAt w) (hs : s.size ≤ 10000000000000000) (hl : l.length + s.size ≤ 20000000000000000) (h : St B w p l) :
    Calls Tryd.prog 40 #[.pointer (some ⟨p, 0, none⟩), .string s] w fun e w' => e = .returned (.tuple #[]) ∧ St B w' p (l ++ bytesOf s) ∧ Below B w w' := by
  have HA : Hid (AddI B w p (l ++ []) w) := by
    rw [List.append_nil]
    exact ⟨h, hT, Below.refl _ _⟩
  clear h hT
  go_enter Tryd.func40, Tryd.ntmps40
  go_wp2_with fail
  go_loopw [1] (fun u wr => ∃ (pre : List Nat) (t : ByteArray), u = .string t ∧ pre ++ bytesOf t = bytesOf s ∧ AddI B w p (l ++ pre) wr) (fun u _ => strSize u)
  case atStart => exact ⟨[], s, rfl, rfl, HA.out⟩
  case round =>
    clear HA
    obtain ⟨pre, t, rfl, hpt, hi⟩ := hrel
    have hsz : pre.length + t.size = s.size := by
      have := congrArg List.length hpt
      rw [List.length_append, bytesOf_length, bytesOf_length] at this
      exact this
    by_cases h0 : t.size = 0
    · obtain rfl := none_of_size t h0
      have hps : pre = bytesOf s := by
        rw [← hpt]
        exact (List.append_nil _).symm
      have HI : Hid (AddI B w p (l ++ bytesOf s) wr) := by
        rw [← hps]
        exact hi
      clear hi hps hpt
      go_wp2_with fail
      go_end0
      exact ⟨rfl, HI.out.st, HI.out.below⟩
    · have hne : t.toList.isEmpty = false := not_none t h0
      obtain ⟨f, hf, hfl, hw⟩ := hi.way
      have HL : Hid (∀ w', AddI B w p (l ++ pre ++ (bytesOf t).take (min t.size (64 - (l ++ pre).length % 64))) w' → AddI B w p (l ++ (pre ++ (bytesOf t).take (min t.size (64 - (l ++ pre).length % 64)))) w') := fun w' h => by
        rw [← List.append_assoc]
        exact h
      have hLn : (l ++ pre).length + t.size ≤ 20000000000000000 := by
        rw [List.length_append]
        omega
      generalize l ++ pre = L at *
      clear hi
      obtain ⟨r, hr, hr64⟩ : ∃ r, L.length % 64 = r ∧ r < 64 := ⟨_, rfl, by omega⟩
      have hri : (L.length : Int) % 64 = (r : Int) := by omega
      have hrt : (L.length : Int).tmod 64 = (r : Int) := by rw [Int.tmod_eq_emod_of_nonneg (by omega)]; exact hri
      obtain ⟨c, hc⟩ : ∃ c, min t.size (64 - r) = c := ⟨_, rfl⟩
      have hsl := slice_l p 4 r hr64
      have cn := hw.sum.cn
      have HW : Hid (Way B w p (soFar L) f L.length wr) := hw
      clear hw
      have HE : Hid (∀ w', Way B w p (if r + c < 64 then soFar L else mblock (soFar L) (blockL (copied f t r c))) (copied f t r c) (L.length + c) w' → AddI B w p (l ++ (pre ++ (bytesOf t).take c)) w') := by
        rw [hr, hc] at HL
        exact fun w' h => HL.out w' (round_end L f t r c hr hc hf hfl w' h)
      have HP : Hid ((pre ++ (bytesOf t).take c) ++ bytesOf (t.extract c t.size) = bytesOf s) := by
        show _ = _
        rw [bytesOf_extract, List.take_of_length_le (i := t.size) (by rw [bytesOf_length]; exact Nat.le_refl _), List.append_assoc, List.take_append_drop]
        exact hpt
      have HF : Hid (∀ j, copied f t r c j < 256) := fun j => copied_lt f hf t r c j
      have HC : Hid (c = min t.size (64 - r)) := hc.symm
      have hcl : c ≤ t.size := by omega
      have hc1 : 1 ≤ c := by omega
      have hts : (t.extract c t.size).size = t.size - c := by rw [ByteArray.size_extract]; omega
      have HH : Hid (r + c < 64 ∨ r + c = 64) := by
        show _ ∨ _
        omega
      clear hpt hfl hf hri HL
      generalize soFar L = q at *
      generalize L.length = n at *
      obtain ⟨n', hn'⟩ : ∃ n', n + c = n' := ⟨_, rfl⟩
      have hn2 : (n : Int) + (c : Int) = (n' : Int) := by omega
      have hcb : c ≤ 64 := by omega
      rw [hn'] at HE
      rcases HH.out with hlt | heq
      · rw [if_pos hlt] at HE
        have hmod : (n' : Int) % 64 = ((r + c : Nat) : Int) := by omega
        have hnz : ¬ (((r + c : Nat) : Int) = 0) := by omega
        clear hn' hr hc HF
        generalize r + c = m at *
        go_wp2_with fail
        go_region_law (refine step_copy_sum rfl _ _ rfl p q f n r c t HW.out.drew.sum hr64 HC.out rfl rfl ?_; intro w2 hw2; have W2 : Hid (Way B w p q (copied f t r c) n w2) := (by rw [hw2.out]; exact HW.out.drew.row _ _ _); have cn2 := W2.out.sum.cn; have fz2 := W2.out.sum.fz 68; clear hw2)
        go_wp2_with fail
        go_roundw
        case rel => exact ⟨_, _, rfl, HP.out, HE.out _ (W2.out.len n')⟩
        case measure => simp [strSize]; omega
      · rw [if_neg (by omega)] at HE
        have hmod : (n' : Int) % 64 = 0 := by omega
        clear hn' hr hc
        go_wp2_with fail
        go_region_law (refine step_copy_sum rfl _ _ rfl p q f n r c t HW.out.drew.sum hr64 HC.out rfl rfl ?_; intro w2 hw2; have W2 : Hid (Way B w p q (copied f t r c) n w2) := (by rw [hw2.out]; exact HW.out.drew.row _ _ _); have cn2 := W2.out.sum.cn; have fz2 := W2.out.sum.fz 68; clear hw2)
        go_wp2_with fail
        generalize copied f t r c = g at *
        generalize hw3 : World.setCell _ _ _ = w3
        have W3 : Hid (Way B w p q g n' w3.drew) := by
          rw [← hw3]
          exact (W2.out.len n').drew
        clear hw3 W2 cn2 fz2 HW cn hsl
        have HK : Hid (∀ wx, Hid (Way B w p q g n' wx) → Hid (Way B w p q g n' wx) ∧ (wx.cell? ⟨p, 0, none⟩ = some (.int .u32 (q.a.toNat : Int)) ∧ wx.cell? ⟨p, 1, none⟩ = some (.int .u32 (q.b.toNat : Int)) ∧ wx.cell? ⟨p, 2, none⟩ = some (.int .u32 (q.c.toNat : Int)) ∧ wx.cell? ⟨p, 3, none⟩ = some (.int .u32 (q.d.toNat : Int))) ∧ (wx.frozen? ⟨p, 0, none⟩ = false ∧ wx.frozen? ⟨p, 1, none⟩ = false ∧ wx.frozen? ⟨p, 2, none⟩ = false ∧ wx.frozen? ⟨p, 3, none⟩ = false)) := fun wx hx =>
          ⟨hx, ⟨hx.out.sum.c0, hx.out.sum.c1, hx.out.sum.c2, hx.out.sum.c3⟩, hx.out.sum.fz 0, hx.out.sum.fz 1, hx.out.sum.fz 2, hx.out.sum.fz 3⟩
        obtain ⟨_, ⟨e0, e1, e2, e3⟩, y0, y1, y2, y3⟩ := HK.out _ W3
        have KW : Hid (∀ wx, Hid (Way B w p q g n' wx) → Calls Tryd.prog 55 #[.agg ((List.range 64).map fun j => Value.int .u8 (g j : Int)).toArray] wx fun e w' => e = .returned (.agg (wordsV (word (blockL g)))) ∧ Hid (Way B w p q g n' w')) := fun wx hx =>
          (wordsOf_spec g HF.out wx).mono fun e w' h => ⟨h.1, hx.out.next h.2⟩
        have KM : Hid (∀ wx, Hid (Way B w p q g n' wx) → Calls Tryd.prog 54 #[.agg (regV q), .agg (wordsV (word (blockL g)))] wx fun e w' => e = .returned (.agg (regV (mblock q (blockL g)))) ∧ Hid (Way B w p q g n' w')) := fun wx hx =>
          (mixed_spec q (blockL g) wx hx.out.tabs).mono fun e w' h => ⟨h.1, hx.out.next h.2⟩
        have HR : Hid (∀ wx, Hid (Way B w p q g n' wx) → wx.rangeAt p 4 ((List.range 64).map fun j => Value.int .u8 (g j : Int))) := fun wx hx => range_of hx.out.sum
        have HR2 : Hid (∀ wx, Hid (Way B w p q g n' wx) → ∀ q'' : Reg4, ((((wx.setCell ⟨p, 0, none⟩ (.int .u32 (q''.a.toNat : Int))).setCell ⟨p, 1, none⟩ (.int .u32 (q''.b.toNat : Int))).setCell ⟨p, 2, none⟩ (.int .u32 (q''.c.toNat : Int))).setCell ⟨p, 3, none⟩ (.int .u32 (q''.d.toNat : Int))).rangeAt p 4 ((List.range 64).map fun j => Value.int .u8 (g j : Int))) := fun wx hx q'' => range_of (hx.out.regs q'').sum
        have hi41 : (Tryd.prog.info? 85).map (·.size) = some ((List.range 64).map fun j => Value.int .u8 (g j : Int)).length := by
          rw [List.length_map, List.length_range]
          exact (zero_of_info info41).2
        have hu41 := Tryd.underlying85
        generalize wordsV (word (blockL g)) = wv at *
        generalize mblock q (blockL g) = q' at *
        generalize ((List.range 64).map fun j => Value.int .u8 (g j : Int)) = cs at *
        clear HF
        refine wp_region_held_drew (S := fun wx => wx.rangeAt p 4 cs) (by kernel_rfl) (HR.out _ W3) (fun hS => ?_)
        refine wpAnyH_take (i := 0) (v := .pointer (some ⟨p, 0, none⟩)) rfl (by kernel_rfl) (by kernel_rfl) (by kernel_rfl) (fun _ _ _ h => h) (Or.inl ⟨by rfl, fun w _ => by go_simp⟩) hS ?_
        simp only [Act.put, List.setIfInBounds_toArray, List.set_cons_zero, List.set_cons_succ]
        refine wpAnyH_take (i := 1) (v := .pointer (some ⟨p, 0, none⟩)) rfl (by kernel_rfl) (by kernel_rfl) (by kernel_rfl) (fun _ _ _ h => h) (Or.inl ⟨by rfl, fun w _ => by go_simp⟩) hS ?_
        simp only [Act.put, List.setIfInBounds_toArray, List.set_cons_zero, List.set_cons_succ]
        refine wpAnyH_take (i := 2) (v := .pointer (some ⟨p, 0, none⟩)) rfl (by kernel_rfl) (by kernel_rfl) (by kernel_rfl) (fun _ _ _ h => h) (Or.inl ⟨by rfl, fun w _ => by go_simp⟩) hS ?_
        simp only [Act.put, List.setIfInBounds_toArray, List.set_cons_zero, List.set_cons_succ]
        refine wpAnyH_take (i := 3) (v := .pointer (some ⟨p, 0, none⟩)) rfl (by kernel_rfl) (by kernel_rfl) (by kernel_rfl) (fun _ _ _ h => h) (Or.inl ⟨by rfl, fun w _ => by go_simp⟩) hS ?_
        simp only [Act.put, List.setIfInBounds_toArray, List.set_cons_zero, List.set_cons_succ]
        refine wpAnyH_take (i := 5) (v := .pointer (some ⟨p, 0, none⟩)) rfl (by kernel_rfl) (by kernel_rfl) (by kernel_rfl) (fun _ _ _ h => h) (Or.inl ⟨by rfl, fun w _ => by go_simp⟩) hS ?_
        simp only [Act.put, List.setIfInBounds_toArray, List.set_cons_zero, List.set_cons_succ]
        refine wpAnyH_take (i := 6) (v := .pointer (some ⟨p, 0, none⟩)) rfl (by kernel_rfl) (by kernel_rfl) (by kernel_rfl) (fun _ _ _ h => h) (Or.inl ⟨by rfl, fun w _ => by go_simp⟩) hS ?_
        simp only [Act.put, List.setIfInBounds_toArray, List.set_cons_zero, List.set_cons_succ]
        refine wpAnyH_take (i := 7) (v := .pointer (some ⟨p, 4, none⟩)) rfl (by kernel_rfl) (by kernel_rfl) (by kernel_rfl) (fun _ _ _ h => h) (Or.inl ⟨by rfl, fun w _ => by go_simp⟩) hS ?_
        simp only [Act.put, List.setIfInBounds_toArray, List.set_cons_zero, List.set_cons_succ]
        refine wpAnyH_take (i := 8) rfl (by kernel_rfl) (by kernel_rfl) (by kernel_rfl) (fun _ _ _ h => h) (yieldsIf_load_mid (by rfl) 85 (.tmp 44) rfl p 4 rfl cs _ (fun w h => h) hu41 rfl hi41) hS ?_
        simp only [Act.put, List.setIfInBounds_toArray, List.set_cons_zero, List.set_cons_succ]
        clear hu41 hi41
        refine wpAnyH_ready (rs := [4, 9]) (by kernel_rfl) (by simp) ?_
        refine AllReadyH.cons rfl (fun K hK => ?_) ?_
        · go_simp
          refine hK.out _ _ hS (fun hS2 => ?_)
          clear hK K
          refine wpAnyH_ready (rs := [9]) (by kernel_rfl) (by simp) ?_
          refine AllReadyH.cons rfl (fun K hK => ?_) AllReadyH.nil
          go_simp
          refine (KW.out _ W3).mono ?_
          rintro e w5 ⟨rfl, h5⟩
          obtain ⟨_, ⟨a0, a1, a2, a3⟩, b0, b1, b2, b3⟩ := HK.out _ h5
          refine hK.out _ _ (HR.out _ h5) (fun hS3 => ?_)
          clear hS e0 e1 e2 e3 y0 y1 y2 y3 hK K
          refine wpAnyH_ready (rs := [10]) (by kernel_rfl) (by simp) ?_
          refine AllReadyH.cons rfl (fun K hK => ?_) AllReadyH.nil
          go_simp
          refine (KM.out _ h5).mono ?_
          rintro e w6 ⟨rfl, h6⟩
          obtain ⟨_, ⟨d0, d1, d2, d3⟩, z0, z1, z2, z3⟩ := HK.out _ h6
          refine hK.out _ _ (HR.out _ h6) (fun hS4 => ?_)
          clear hK K a0 a1 a2 a3 b0 b1 b2 b3
          refine wpAnyH_take (i := 11) (v := .pointer (some ⟨p, 0, none⟩)) rfl (by kernel_rfl) (by kernel_rfl) (by kernel_rfl) (fun _ _ _ h => h) (Or.inl ⟨by rfl, fun w _ => by go_simp⟩) hS4 ?_
          simp only [Act.put, List.setIfInBounds_toArray, List.set_cons_zero, List.set_cons_succ]
          refine wpAnyH_take (i := 12) (v := .pointer (some ⟨p, 0, none⟩)) rfl (by kernel_rfl) (by kernel_rfl) (by kernel_rfl) (fun _ _ _ h => h) (Or.inl ⟨by rfl, fun w _ => by go_simp⟩) hS4 ?_
          simp only [Act.put, List.setIfInBounds_toArray, List.set_cons_zero, List.set_cons_succ]
          refine wpAnyH_ready (rs := [13]) (by kernel_rfl) (by simp) ?_
          refine AllReadyH.cons rfl (fun K hK => ?_) AllReadyH.nil
          go_simp
          refine hK.out _ _ (HR2.out _ h6 q') (fun hS5 => ?_)
          refine wpAnyH_done (by kernel_rfl) ?_ _
          clear hK K
          go_wp2_with fail
          go_roundw
          case rel => exact ⟨_, _, rfl, HP.out, HE.out _ (h6.out.regs q')⟩
          case measure => simp [strSize]; omega
        · refine AllReadyH.cons rfl (fun K hK => ?_) AllReadyH.nil
          go_simp
          refine (KW.out _ W3).mono ?_
          rintro e w5 ⟨rfl, h5⟩
          obtain ⟨_, ⟨a0, a1, a2, a3⟩, b0, b1, b2, b3⟩ := HK.out _ h5
          refine hK.out _ _ (HR.out _ h5) (fun hS3 => ?_)
          clear hS e0 e1 e2 e3 y0 y1 y2 y3 hK K
          refine wpAnyH_ready (rs := [4]) (by kernel_rfl) (by simp) ?_
          refine AllReadyH.cons rfl (fun K hK => ?_) AllReadyH.nil
          go_simp
          refine hK.out _ _ hS3 (fun hS6 => ?_)
          clear hK K
          refine wpAnyH_ready (rs := [10]) (by kernel_rfl) (by simp) ?_
          refine AllReadyH.cons rfl (fun K hK => ?_) AllReadyH.nil
          go_simp
          refine (KM.out _ h5).mono ?_
          rintro e w6 ⟨rfl, h6⟩
          obtain ⟨_, ⟨d0, d1, d2, d3⟩, z0, z1, z2, z3⟩ := HK.out _ h6
          refine hK.out _ _ (HR.out _ h6) (fun hS4 => ?_)
          clear hK K a0 a1 a2 a3 b0 b1 b2 b3
          refine wpAnyH_take (i := 11) (v := .pointer (some ⟨p, 0, none⟩)) rfl (by kernel_rfl) (by kernel_rfl) (by kernel_rfl) (fun _ _ _ h => h) (Or.inl ⟨by rfl, fun w _ => by go_simp⟩) hS4 ?_
          simp only [Act.put, List.setIfInBounds_toArray, List.set_cons_zero, List.set_cons_succ]
          refine wpAnyH_take (i := 12) (v := .pointer (some ⟨p, 0, none⟩)) rfl (by kernel_rfl) (by kernel_rfl) (by kernel_rfl) (fun _ _ _ h => h) (Or.inl ⟨by rfl, fun w _ => by go_simp⟩) hS4 ?_
          simp only [Act.put, List.setIfInBounds_toArray, List.set_cons_zero, List.set_cons_succ]
          refine wpAnyH_ready (rs := [13]) (by kernel_rfl) (by simp) ?_
          refine AllReadyH.cons rfl (fun K hK => ?_) AllReadyH.nil
          go_simp
          refine hK.out _ _ (HR2.out _ h6 q') (fun hS5 => ?_)
          refine wpAnyH_done (by kernel_rfl) ?_ _
          clear hK K
          go_wp2_with fail
          go_roundw
          case rel => exact ⟨_, _, rfl, HP.out, HE.out _ (h6.out.regs q')⟩
          case measure => simp [strSize]; omega

end Go.Proofs.YtolmijpecomkcaaDoor.Dg

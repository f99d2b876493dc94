/- Own text: the walk of the document's digest as digits. -/
import Derived.Test.YtkbppdihemoijaaDoorMdof
import Derived.Deep.RegionLaw
namespace Go.Proofs.YtkbppdihemoijaaDoor
open Go.RowKit
set_option linter.unusedSimpArgs false
set_option linter.unusedVariables false

theorem digits_all : ∀ k : Fin 16, ((⟨#[48, 49, 50, 51, 52, 53, 54, 55, 56, 57, 97, 98, 99, 100, 101, 102]⟩ : ByteArray)[k.val]'(by exact k.isLt)).toNat = digit k.val := by decide +kernel

theorem hexL_length (l : List Nat) : (hexL l).length = 2 * l.length := by
  induction l with
  | nil => rfl
  | cons b t ih =>
    show ([digit (b / 16), digit (b % 16)] ++ hexL t).length = _
    rw [List.length_append, ih]
    simp
    omega

theorem digit_lt (n : Nat) (h : n < 16) : digit n < 256 := by
  unfold digit
  split <;> omega

theorem hexL_lt (l : List Nat) (h : ∀ b ∈ l, b < 256) : ∀ x ∈ hexL l, x < 256 := by
  intro x hx
  obtain ⟨b, hb, hx⟩ := List.mem_flatMap.1 hx
  have := h b hb
  simp only [List.mem_cons, List.not_mem_nil, or_false] at hx
  rcases hx with rfl | rfl
  · exact digit_lt _ (by omega)
  · exact digit_lt _ (by omega)

theorem hexL_get (l : List Nat) : ∀ i, i < l.length → (hexL l).getD (2 * i) 0 = digit (l.getD i 0 / 16) ∧ (hexL l).getD (2 * i + 1) 0 = digit (l.getD i 0 % 16) := by
  induction l with
  | nil => intro i h; simp at h
  | cons b t ih =>
    intro i h
    have e : hexL (b :: t) = digit (b / 16) :: digit (b % 16) :: hexL t := rfl
    cases i with
    | zero => rw [e]; exact ⟨rfl, rfl⟩
    | succ i =>
      have h' : i < t.length := by simpa using h
      obtain ⟨h1, h2⟩ := ih i h'
      rw [e]
      constructor
      · rw [show 2 * (i + 1) = 2 * i + 1 + 1 from by omega, List.getD_cons_succ, List.getD_cons_succ, h1]
        rfl
      · rw [show 2 * (i + 1) + 1 = 2 * i + 1 + 1 + 1 from by omega, List.getD_cons_succ, List.getD_cons_succ, h2]
        rfl

theorem make0 (w : World) : (Instr.makeSlice 37 (.int .i64 0) (.int .i64 32)).run Tryd.prog w = .ok (.slice (some ⟨w.heap.size, 0, none⟩) 0 32) (w.alloc (.cells (madeCells #[.int .u8 0] 32) 5)) := by
  obtain ⟨i, hi, hzz⟩ := Option.map_eq_some_iff.1 Tryd.info5
  simp only [Prod.mk.injEq] at hzz
  obtain ⟨hz, hs, hb⟩ := hzz
  have h := run_make (P := Tryd.prog) w 37 5 i (.int .u8 0) Tryd.underlying37 hi hz .i64 .i64 0 32 (by decide) (by decide) (by rw [hb]; decide) (by decide)
  rw [hs] at h
  exact h

theorem index_byte (s : ByteArray) (i : Nat) (h : i < s.size) : (bytesOf s).getD i 0 = (s[i]'h).toNat := by
  rw [List.getD_eq_getElem?_getD, List.getElem?_eq_getElem (by rw [bytesOf_length]; exact h), bytesOf_get s i h]
  rfl

set_option maxRecDepth 200000 in
set_option maxHeartbeats 4000000 in
theorem refHex_spec (s : ByteArray) (hs : s.size ≤ 1000000000000000000) (w : World) :
    Calls Tryd.prog 10 #[.string s] w fun e w' => e = .returned (.string (textOf (hexL (md5 (bytesOf s))))) ∧ Below w.heap.size w w' := by
  have ko := refOf_spec s hs w
  have HD : Hid ((textOf (md5 (bytesOf s))).size = 16) := by
    show _ = _
    rw [textOf_size, md5_length]
  have HDB : Hid (bytesOf (textOf (md5 (bytesOf s))) = md5 (bytesOf s)) := bytesOf_textOf _ (md5_lt _)
  generalize md5 (bytesOf s) = L at *
  generalize textOf L = X at *
  go_enter Tryd.func10, Tryd.ntmps10
  generalize hT : (ByteArray.mk #[48, 49, 50, 51, 52, 53, 54, 55, 56, 57, 97, 98, 99, 100, 101, 102]) = T
  go_wp2_with fail
  refine ko.mono ?_
  rintro e w1 ⟨rfl, hB⟩
  have HB : Hid (Below w.heap.size w w1) := hB
  clear hB ko
  have hmk := make0 w1
  have hTs : T.size = 16 := by rw [← hT]; rfl
  have HTD : Hid (∀ (k : Nat) (h : k < T.size), (T[k]'h).toNat = digit k) := by
    subst hT
    exact fun k h => digits_all ⟨k, h⟩
  clear hT
  go_wp2_with fail
  have hrow := World.rowIs_made w1 (.int .u8 0) 32 5
  generalize hg : w1.heap.size = g at *
  have HG : Hid (w.heap.size ≤ g) := by
    rw [← hg]
    exact HB.out.size
  have hbel : Below w.heap.size w (w1.alloc (.cells (madeCells #[.int .u8 0] 32) 5)) := HB.out.alloc HB.out.size _
  go_loopw [4, 5] (fun v t wr => ∃ (i n : Nat), i ≤ 16 ∧ n = 2 * i ∧ v = .slice (some ⟨g, 0, none⟩) n 32 ∧ t = .int .i64 (i : Int) ∧ wr.rowIs g 5 32 (fun j => .int .u8 ((if j < 2 * i then (hexL L).getD j 0 else 0 : Nat) : Int)) ∧ Below w.heap.size w wr) (fun _ t _ => 16 - (intOf t).toNat)
  case atStart => exact ⟨0, 0, Nat.zero_le _, rfl, rfl, rfl, hrow.congr (fun j _ => by simp), hbel⟩
  case round =>
    clear hrow hbel hmk
    obtain ⟨i, n, hi, hn, rfl, rfl, hr, hb⟩ := hrel
    have hxs := HD.out
    by_cases hlt : i < 16
    · have hxi : i < X.size := by omega
      have hx256 : (X[i]'hxi).toNat < 256 := UInt8.toNat_lt _
      have hix := index_byte X i hxi
      rw [HDB.out] at hix
      obtain ⟨hg1, hg2⟩ := hexL_get L i (by
        have := bytesOf_length X
        rw [HDB.out] at this
        omega)
      have q1 : (X[i]'hxi).toNat / 16 < T.size := by omega
      have q2 : (X[i]'hxi).toNat % 16 < T.size := by omega
      have t1 := HTD.out _ q1
      have t2 := HTD.out _ q2
      have e1 : bits .and .u8 ((X[i]'hxi).toNat : Int) 15 = (((X[i]'hxi).toNat % 16 : Nat) : Int) := by
        have h := u8_and_nat (X[i]'hxi).toNat 15 hx256 (by decide)
        have h2 : (X[i]'hxi).toNat &&& 15 = (X[i]'hxi).toNat % 16 := Nat.and_two_pow_sub_one_eq_mod _ 4
        rw [h2] at h
        exact h
      have e2 : ((X[i]'hxi).toNat : Int) / 16 = (((X[i]'hxi).toNat / 16 : Nat) : Int) := by omega
      rw [hix] at hg1 hg2
      clear hix
      obtain ⟨b, hb'⟩ : ∃ b : Nat, (X[i]'hxi).toNat = b := ⟨_, rfl⟩
      rw [hb'] at hx256 hg1 hg2 e1 e2
      have t1' : ∃ q : b / 16 < T.size, (T[b / 16]'q).toNat = digit (b / 16) := ⟨by omega, HTD.out _ _⟩
      have t2' : ∃ q : b % 16 < T.size, (T[b % 16]'q).toNat = digit (b % 16) := ⟨by omega, HTD.out _ _⟩
      clear t1 t2 q1 q2
      generalize digit (b / 16) = d1 at *
      generalize digit (b % 16) = d2 at *
      generalize b / 16 = hh at *
      generalize b % 16 = ll at *
      obtain ⟨q1, t1⟩ := t1'
      obtain ⟨q2, t2⟩ := t2'
      have HN : Hid (n = 2 * i) := hn
      have hn32 : n + 2 ≤ 32 := by omega
      have HG1 : Hid ((hexL L).getD (2 * i) 0 = d1) := hg1
      have HG2 : Hid ((hexL L).getD (2 * i + 1) 0 = d2) := hg2
      have HR : Hid (wr.rowIs g 5 32 (fun j => .int .u8 ((if j < 2 * i then (hexL L).getD j 0 else 0 : Nat) : Int))) := hr
      have HBE : Hid (Below w.heap.size w wr) := hb
      clear hn hg1 hg2 hr hb
      have r1 : (hh : Int) < 16 := by omega
      have r2 : (ll : Int) < 16 := by omega
      obtain ⟨i0, hi0, hz0, hz1, hz2⟩ := info_parts Tryd.info5
      have HI : Hid (Tryd.prog.info? 5 = some i0 ∧ i0.size = 1) := ⟨hi0, hz1⟩
      clear hi0 hz0 hz1 hz2
      have HNEWS : Hid (∀ j u, [Value.int .u8 (d1 : Int), .int .u8 (d2 : Int)][j]? = some u → (wr.drew.alloc (.cells #[.int .u8 (d1 : Int), .int .u8 (d2 : Int)] 5)).cell? ((⟨wr.heap.size, 0, none⟩ : Addr).add j) = some u) := by
        intro j u hj
        rw [Addr.add_lit, Nat.zero_add]
        show (wr.drew.alloc (.cells #[.int .u8 (d1 : Int), .int .u8 (d2 : Int)] 5)).cell? ⟨wr.drew.heap.size, j, none⟩ = some u
        rw [cell_of_row _ _ _ _ _ _ (heap_alloc_new wr.drew _)]
        simpa using hj
      have HONE : Hid (∀ u ∈ [Value.int .u8 (d1 : Int), .int .u8 (d2 : Int)], u.oneCell' = true) := by
        intro u hu
        simp only [List.mem_cons, List.not_mem_nil, or_false] at hu
        rcases hu with rfl | rfl <;> rfl
      have HROW : Hid ((wr.drew.alloc (.cells #[.int .u8 (d1 : Int), .int .u8 (d2 : Int)] 5)).rowIs g 5 32 (fun j => .int .u8 ((if j < 2 * i then (hexL L).getD j 0 else 0 : Nat) : Int))) := (World.rowIs.drew HR.out).alloc _
      have HSP : Hid (∀ j, j < [Value.int .u8 (d1 : Int), .int .u8 (d2 : Int)].length → ((wr.drew.alloc (.cells #[.int .u8 (d1 : Int), .int .u8 (d2 : Int)] 5)).cell? ⟨g, 0 + n * 1 + j, none⟩).isSome = true ∧ (wr.drew.alloc (.cells #[.int .u8 (d1 : Int), .int .u8 (d2 : Int)] 5)).frozen? ⟨g, 0 + n * 1 + j, none⟩ = false) := by
        intro j hj
        have hj2 : j < 2 := hj
        have e : 0 + n * 1 + j = n + j := by omega
        rw [e]
        exact ⟨by rw [HROW.out.cell (by omega)]; rfl, HROW.out.frozen _⟩
      have HROW2 : Hid ((wr.alloc (.cells #[.int .u8 (d1 : Int), .int .u8 (d2 : Int)] 5)).drew.rowIs g 5 32 (fun j => .int .u8 ((if j < 2 * i then (hexL L).getD j 0 else 0 : Nat) : Int))) := World.rowIs.drew (HR.out.alloc _)
      have HWX : Hid (((wr.alloc (.cells #[.int .u8 (d1 : Int), .int .u8 (d2 : Int)] 5)).drew.setCells g n [.int .u8 (d1 : Int), .int .u8 (d2 : Int)]).rowIs g 5 32 (fun j => .int .u8 ((if j < 2 * (i + 1) then (hexL L).getD j 0 else 0 : Nat) : Int)) ∧ Below w.heap.size w ((wr.alloc (.cells #[.int .u8 (d1 : Int), .int .u8 (d2 : Int)] 5)).drew.setCells g n [.int .u8 (d1 : Int), .int .u8 (d2 : Int)])) := by
        have e : n = 2 * i := HN.out
        rw [e]
        simp only [World.setCells]
        constructor
        · refine ((HROW2.out.set (2 * i) _).set (2 * i + 1) _).congr (fun j hj => ?_)
          by_cases c1 : j = 2 * i + 1
          · subst c1
            rw [if_pos rfl, if_pos (by omega), HG2.out]
          · rw [if_neg c1]
            by_cases c2 : j = 2 * i
            · subst c2
              rw [if_pos rfl, if_pos (by omega), HG1.out]
            · rw [if_neg c2]
              by_cases c3 : j < 2 * i
              · rw [if_pos c3, if_pos (by omega)]
              · rw [if_neg c3, if_neg (by omega)]
        · have h1 : Below w.heap.size w (wr.alloc (.cells #[.int .u8 (d1 : Int), .int .u8 (d2 : Int)] 5)).drew := (HBE.out.alloc HBE.out.size _).drew
          exact (h1.setCell (by simpa using HG.out) _).setCell (by simpa using HG.out) _
      go_wp2_with fail
      go_region_law (refine step_append_room rfl (.tmp 15) (.tmp 26) 37 rfl 5 i0 1 Tryd.underlying37 HI.out.1 HI.out.2 g 0 n 32 (by simp [Act.eval, Act.put]) ⟨wr.heap.size, 0, none⟩ 2 2 [.int .u8 (d1 : Int), .int .u8 (d2 : Int)] (by simp [Act.eval, Act.put]) rfl HNEWS.out HONE.out hn32 HSP.out ?_)
      all_goals go_wp2
      all_goals go_roundw
      all_goals first | exact ⟨i + 1, n + 2, by omega, by have := HN.out; omega, rfl, by go_num, HWX.out.1, HWX.out.2⟩ | (simp [intOf]; omega)
    · have hie : i = 16 := by omega
      have hr2 : wr.rowIs g 5 32 (fun j => .int .u8 ((hexL L).getD j 0 : Int)) := hr.congr (fun j hj => by rw [hie, if_pos (by omega)])
      have hll : L.length = 16 := by
        have := bytesOf_length X
        rw [HDB.out] at this
        omega
      have hcv0 := conv_row (cap := 32) hr2
      have he : (List.range 32).map (fun j => (hexL L).getD j 0) = hexL L := by
        apply List.ext_getElem?
        intro j
        by_cases hj : j < 32
        · have hjl : j < (hexL L).length := by rw [hexL_length]; omega
          rw [List.getElem?_eq_getElem hjl]
          simp [hj, List.getD_eq_getElem?_getD, List.getElem?_eq_getElem hjl]
        · rw [List.getElem?_eq_none (by simp; omega), List.getElem?_eq_none (by rw [hexL_length]; omega)]
      rw [he] at hcv0
      have h32 : n = 32 := by omega
      have hcv : (convert 37 9 (.slice (some ⟨g, 0, none⟩) n 32)).run Tryd.prog wr = .ok (.string (textOf (hexL L))) wr := by
        rw [h32]
        exact hcv0
      have HBE : Hid (Below w.heap.size w wr) := hb
      clear hr hr2 he hb hll hn hie hcv0 h32
      go_wp2
      go_ret
      exact ⟨rfl, HBE.out⟩

end Go.Proofs.YtkbppdihemoijaaDoor

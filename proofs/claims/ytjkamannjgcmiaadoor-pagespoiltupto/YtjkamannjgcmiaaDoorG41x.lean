/- Own text: awake over what the program's calls do. the walk of PageParses over what the program's calls do. the bytes of a text in memory of the call's own, one of which is written. -/
import Derived.Test.YtjkamannjgcmiaaDoorQ15does
import Derived.Test.YtjkamannjgcmiaaDoorG8x
import Derived.Laws.IdiomStrings
namespace Go.Proofs.YtjkamannjgcmiaaDoor
open Go.RowKit
set_option linter.unusedSimpArgs false
set_option linter.unusedVariables false

theorem box_at {w : World} {C : Array Value} {T : TypeId} {n : Nat} (hn : n = w.heap.size) : Box (w.alloc (.cells C T)) n C T := by subst hn; exact Box.new _ _ _
theorem ints_of {w : World} {g : Nat} {l : List Int} {T : TypeId} (h : Box w g (intsC l).toArray T) (hl : l.length ≤ 100) (hr : ∀ x ∈ l, -9223372036854775808 ≤ x ∧ x ≤ 9223372036854775807) : IntsAt w (some ⟨g, 0, none⟩) l := by
  refine ⟨by omega, hr, fun _ => ⟨g, 0, rfl, fun j hj => ?_⟩⟩
  rw [Nat.zero_add]
  refine h.c j _ ?_
  unfold intsC
  rw [List.getElem?_toArray, List.getElem?_map, List.getElem?_eq_getElem hj, List.getD_eq_getElem?_getD, List.getElem?_eq_getElem hj]
  rfl
theorem aw_mem (w : World) : PgsAt (((w.alloc (.cells #[.int .i64 1, .int .i64 2] 3)).alloc (.cells #[.int .i64 6, .int .i64 1, .int .i64 0, .int .i64 (-1), .slice (some ⟨w.heap.size, 0, none⟩) 2 2] 49)).alloc (.cells #[.string ⟨#[97]⟩, .string ⟨#[98, 99]⟩] 9)) (some ⟨w.heap.size + 1, 0, none⟩) [pg0] ∧ StrsAt (((w.alloc (.cells #[.int .i64 1, .int .i64 2] 3)).alloc (.cells #[.int .i64 6, .int .i64 1, .int .i64 0, .int .i64 (-1), .slice (some ⟨w.heap.size, 0, none⟩) 2 2] 49)).alloc (.cells #[.string ⟨#[97]⟩, .string ⟨#[98, 99]⟩] 9)) (some ⟨w.heap.size + 2, 0, none⟩) pk0 ∧ Below w.heap.size w (((w.alloc (.cells #[.int .i64 1, .int .i64 2] 3)).alloc (.cells #[.int .i64 6, .int .i64 1, .int .i64 0, .int .i64 (-1), .slice (some ⟨w.heap.size, 0, none⟩) 2 2] 49)).alloc (.cells #[.string ⟨#[97]⟩, .string ⟨#[98, 99]⟩] 9)) := by
  have b1 : Box (((w.alloc (.cells #[.int .i64 1, .int .i64 2] 3)).alloc (.cells #[.int .i64 6, .int .i64 1, .int .i64 0, .int .i64 (-1), .slice (some ⟨w.heap.size, 0, none⟩) 2 2] 49)).alloc (.cells #[.string ⟨#[97]⟩, .string ⟨#[98, 99]⟩] 9)) w.heap.size #[.int .i64 1, .int .i64 2] 3 := ((Box.new w _ _).keep (below_new _ _)).keep (below_new _ _)
  have b2 : Box (((w.alloc (.cells #[.int .i64 1, .int .i64 2] 3)).alloc (.cells #[.int .i64 6, .int .i64 1, .int .i64 0, .int .i64 (-1), .slice (some ⟨w.heap.size, 0, none⟩) 2 2] 49)).alloc (.cells #[.string ⟨#[97]⟩, .string ⟨#[98, 99]⟩] 9)) (w.heap.size + 1) #[.int .i64 6, .int .i64 1, .int .i64 0, .int .i64 (-1), .slice (some ⟨w.heap.size, 0, none⟩) 2 2] 49 := (box_at (by simp)).keep (below_new _ _)
  have b3 : Box (((w.alloc (.cells #[.int .i64 1, .int .i64 2] 3)).alloc (.cells #[.int .i64 6, .int .i64 1, .int .i64 0, .int .i64 (-1), .slice (some ⟨w.heap.size, 0, none⟩) 2 2] 49)).alloc (.cells #[.string ⟨#[97]⟩, .string ⟨#[98, 99]⟩] 9)) (w.heap.size + 2) #[.string ⟨#[97]⟩, .string ⟨#[98, 99]⟩] 9 := box_at (by simp)
  refine ⟨⟨fun _ => ⟨w.heap.size + 1, 0, rfl, fun i p hi => ?_⟩⟩, ⟨fun _ => ⟨w.heap.size + 2, 0, rfl, fun i t hi => ?_⟩⟩, (((Below.refl _ _).alloc (Nat.le_refl _) _).alloc (by simp) _).alloc (by simp; omega) _⟩
  · have hi0 : i = 0 := by have := (List.getElem?_eq_some_iff.1 hi).1; simp at this; exact this
    subst hi0
    injection hi with hi
    subst hi
    refine ⟨some ⟨w.heap.size, 0, none⟩, 2, fun j v hj => ?_, ⟨ints_of b1 (by decide) (by decide), by decide, fun q => by cases q⟩⟩
    rw [Nat.zero_mul, Nat.zero_add]
    exact b2.c j v (show (List.toArray (pgC pg0 (some ⟨w.heap.size, 0, none⟩) 2))[j]? = some v by rw [List.getElem?_toArray]; exact hj)
  · rw [Nat.zero_add]
    refine b3.c i _ ?_
    have hl := (List.getElem?_eq_some_iff.1 hi).1
    have : i = 0 ∨ i = 1 := by simp at hl; omega
    rcases this with rfl | rfl
    · injection hi with hi; rw [← hi]; rfl
    · injection hi with hi; rw [← hi]; rfl
set_option maxRecDepth 20000 in
set_option maxHeartbeats 3200000 in
theorem awake15 {L : World → Prop} (D : Does15 L) (w : World) (hL : L w) : Calls Tryd.prog 12 #[] w fun e w' => e = .returned (.bool true) ∧ Below w.heap.size w w' := by
  have HD := hid D
  have HLw := hid hL
  have HM := hid (aw_mem w)
  have kb := fun hL3 => D.bld [pg0] pk0 (some ⟨w.heap.size + 1, 0, none⟩) (some ⟨w.heap.size + 2, 0, none⟩) 1 2 (((w.alloc (.cells #[.int .i64 1, .int .i64 2] 3)).alloc (.cells #[.int .i64 6, .int .i64 1, .int .i64 0, .int .i64 (-1), .slice (some ⟨w.heap.size, 0, none⟩) 2 2] 49)).alloc (.cells #[.string ⟨#[97]⟩, .string ⟨#[98, 99]⟩] 9)) hL3 (aw_mem w).1 (aw_mem w).2.1 (by decide) (by decide) (by decide) (by decide) (by decide) (by decide)
  have kb := kb (D.keep w _ hL (aw_mem w).2.2)
  clear hL D
  go_enter Tryd.func12, Tryd.ntmps12
  go_wp2_with fail
  refine kb.mono ?_
  rintro e w4 ⟨he, hb4⟩
  have HB4 : Hid (Below w.heap.size w w4 ∧ L w4 ∧ PgsAt w4 (some ⟨w.heap.size + 1, 0, none⟩) [pg0]) := by
    have h := below_on HM.out.2.2 HM.out.2.2.size hb4
    exact ⟨h, HD.out.keep _ _ HLw.out h, HM.out.1.below hb4⟩
  unfold BldE at he
  rw [ex_bld] at he
  subst he
  clear hb4 kb HM
  have HBT : Hid (bytesOf (textOf (layAll [pg0] [97, 98, 99])) = layAll [pg0] [97, 98, 99]) := S2.bytesOf_textOf _ (layAll_lt _ _ (fun p hp => by
    rw [List.mem_singleton] at hp
    subst hp
    exact ⟨by decide, by decide⟩) (by decide))
  have hz : (textOf (layAll [pg0] [97, 98, 99])).size = 32 := by rw [S2.textOf_size, ex_len]
  have kp := HD.out.prs (textOf (layAll [pg0] [97, 98, 99])) (by omega) w4 HB4.out.2.1
  rw [HBT.out, (bld_read _ _ _ ex_bld).2] at kp
  clear HBT
  generalize textOf (layAll [pg0] [97, 98, 99]) = T at *
  go_wp2_with fail
  refine kp.mono ?_
  rintro e w5 ⟨⟨po, pc, qo, qc, he, hpp, hqq, _, _, _, _⟩, hb5⟩
  have HB5 : Hid (Below w.heap.size w w5 ∧ L w5 ∧ PgsAt w5 (some ⟨w.heap.size + 1, 0, none⟩) [pg0] ∧ PgsAt w5 po [pg0] ∧ StrsAt w5 qo pk0) := by
    have h := below_on HB4.out.1 HB4.out.1.size hb5
    rw [text_bytes] at hqq
    exact ⟨h, HD.out.keep _ _ HLw.out h, HB4.out.2.2.below hb5, hpp, hqq⟩
  have he : e = .returned (.tuple #[.slice po 1 pc, .slice qo 2 qc, .int .i64 0]) := he
  subst he
  clear hpp hqq hb5 kp HB4
  have kp := HD.out.prs ⟨#[79, 103, 103, 83]⟩ (by decide) w5 HB5.out.2.1
  rw [ex_ogg] at kp
  go_wp2_with fail
  refine kp.mono ?_
  rintro e w6 ⟨⟨po2, pc2, qo2, qc2, he, _, _, _, _, _, _⟩, hb6⟩
  have he : e = .returned (.tuple #[.slice po2 0 pc2, .slice qo2 0 qc2, .int .i64 2]) := he
  subst he
  have HB6 : Hid (Below w.heap.size w w6 ∧ L w6 ∧ PgsAt w6 (some ⟨w.heap.size + 1, 0, none⟩) [pg0] ∧ PgsAt w6 po [pg0] ∧ StrsAt w6 qo pk0) := by
    have h := below_on HB5.out.1 HB5.out.1.size hb6
    exact ⟨h, HD.out.keep _ _ HLw.out h, HB5.out.2.2.1.below hb6, HB5.out.2.2.2.1.below hb6, HB5.out.2.2.2.2.below hb6⟩
  clear hb6 kp HB5
  have kl := HD.out.lac [510, 3] (some ⟨w6.heap.size, 0, none⟩) 2 255 (w6.alloc (.cells #[.int .i64 510, .int .i64 3] 3)) (ints_of (Box.new _ _ _) (by decide) (by decide)) (by decide) (by decide) (by decide)
  rw [ex_lac] at kl
  go_wp2_with fail
  refine kl.mono ?_
  rintro e w7 ⟨⟨xo, xc, he, hrx, _, _⟩, hb7⟩
  have he : e = .returned (.slice xo 2 xc) := he
  subst he
  have HB7 : Hid (Below w.heap.size w w7 ∧ PgsAt w7 (some ⟨w.heap.size + 1, 0, none⟩) [pg0] ∧ PgsAt w7 po [pg0] ∧ StrsAt w7 qo pk0 ∧ RowsAt w7 xo [[255, 255, 0], [3]]) := by
    have hb := (below_new w6 (.cells #[.int .i64 510, .int .i64 3] 3)).trans (hb7.mono (by simp))
    have h := below_on HB6.out.1 HB6.out.1.size hb
    exact ⟨h, HB6.out.2.2.1.below hb, HB6.out.2.2.2.1.below hb, HB6.out.2.2.2.2.below hb, hrx⟩
  clear hb7 kl HB6 hrx
  have ks := pages_same [pg0] (some ⟨w.heap.size + 1, 0, none⟩) po 1 pc w7 HB7.out.2.1 HB7.out.2.2.1 (by decide)
  go_wp2_with fail
  refine ks.mono ?_
  rintro e w8 ⟨rfl, hb8⟩
  have HB8 : Hid (Below w.heap.size w w8 ∧ StrsAt w8 qo pk0 ∧ RowsAt w8 xo [[255, 255, 0], [3]]) := ⟨below_on HB7.out.1 HB7.out.1.size hb8, HB7.out.2.2.2.1.below hb8, HB7.out.2.2.2.2.below hb8⟩
  clear hb8 ks HB7
  obtain ⟨q1, o1, rfl, hq1⟩ := HB8.out.2.1.at 1 ⟨#[98, 99]⟩ rfl
  have y1 := hq1 w8 (Below.refl _ _)
  obtain ⟨x1, xo1, rfl, hx1⟩ := HB8.out.2.2.lies (by decide)
  obtain ⟨a0, c0, z0, _, _, i0⟩ := hx1 0 (by decide)
  obtain ⟨a1, c1, z1, _, _, i1⟩ := hx1 1 (by decide)
  have z0 : w8.cell? ⟨x1, xo1, none⟩ = some (.slice a0 3 c0) := z0
  have z1 : w8.cell? ⟨x1, xo1 + 1, none⟩ = some (.slice a1 1 c1) := z1
  have HI : Hid (IntsAt w8 a0 [255, 255, 0] ∧ IntsAt w8 a1 [3]) := ⟨i0, i1⟩
  have HZ1 : Hid (∀ wx, Below w8.heap.size w8 wx → wx.cell? ⟨x1, xo1 + 1, none⟩ = some (.slice a1 1 c1)) := fun wx hb => by rw [World.cell?_of_block (w := w8) (hb.block _ (lt_cell z1))]; exact z1
  have ki := ints_any [255, 255, 0] [255, 255, 0] a0 (some ⟨w8.heap.size, 0, none⟩) c0 3 (w8.alloc (.cells #[.int .i64 255, .int .i64 255, .int .i64 0] 3)) (i0.below (below_new _ _)) (ints_of (Box.new _ _ _) (by decide) (by decide))
  clear hq1 hx1 i0 i1
  go_wp2_with fail
  refine ki.mono ?_
  rintro e w9 ⟨he, hb9⟩
  have hb9' : Below w8.heap.size w8 w9 := by
    obtain ⟨n, rfl⟩ := hb9
    exact Below.drewN (below_new _ _) n
  have he : e = .returned (.bool true) := by simpa using he
  subst he
  have z2 := HZ1.out w9 hb9'
  have HB9 : Hid (Below w.heap.size w w9) := below_on HB8.out.1 HB8.out.1.size hb9'
  have ki2 := ints_any [3] [3] a1 (some ⟨w9.heap.size, 0, none⟩) c1 1 (w9.alloc (.cells #[.int .i64 3] 3)) ((HI.out.2.below hb9').below (below_new _ _)) (ints_of (Box.new _ _ _) (by decide) (by decide))
  clear hb9 hb9' y1 z0 z1 ki HZ1 HI HB8
  go_wp2_with fail
  refine ki2.mono ?_
  rintro e w10 ⟨he, hb10⟩
  have he : e = .returned (.bool true) := by simpa using he
  subst he
  have HB10 : Hid (Below w.heap.size w w10) := by
    obtain ⟨n, rfl⟩ := hb10
    exact Below.drewN (below_on HB9.out HB9.out.size (below_new _ _)) n
  clear hb10 ki2 z2
  go_wp2_with fail
  go_ret
  exact ⟨rfl, HB10.out⟩

end Go.Proofs.YtjkamannjgcmiaaDoor

namespace Go.Proofs.YtjkamannjgcmiaaDoor
open Go.RowKit
set_option linter.unusedSimpArgs false
set_option linter.unusedVariables false

theorem prs_len : ∀ (f : Nat) (R : List Nat) (P : List Pg) (K : List (List Nat)) (op : Bool) (hd : List Nat), P.length ≤ 65536 → (prs f R P K op hd).2.1.length ≤ 65536
  | 0, _, _, _, _, _, _ => Nat.zero_le _
  | f + 1, R, P, K, op, hd, h => by
    rw [prs]
    split
    · unfold finP
      split
      · exact h
      · exact Nat.zero_le _
    · split
      · rename_i _ he
        have := (pgE_zero he).2.1
        exact prs_len f _ _ _ _ _ (by rw [List.length_append, List.length_singleton]; omega)
      · exact Nat.zero_le _
theorem cut_len : ∀ (la B : List Nat) (K : List (List Nat)) (op : Bool) (hd : List Nat), (cutL la B K op hd).1.length ≤ K.length + la.length
  | [], _, K, _, _ => Nat.le_refl _
  | x :: t, B, K, op, hd => by
    rw [cutL]
    split
    · have := cut_len t (B.drop x) K true (hd ++ B.take x)
      rw [List.length_cons]
      omega
    · have := cut_len t (B.drop x) (K ++ [hd ++ B.take x]) false []
      rw [List.length_append, List.length_singleton] at this
      rw [List.length_cons]
      omega
theorem prs_pk : ∀ (f : Nat) (R : List Nat) (P : List Pg) (K : List (List Nat)) (op : Bool) (hd : List Nat) (n : Nat), K.length + R.length ≤ n → (prs f R P K op hd).2.2.length ≤ n
  | 0, _, _, _, _, _, _, _ => Nat.zero_le _
  | f + 1, R, P, K, op, hd, n, h => by
    rw [prs]
    split
    · unfold finP
      split
      · show K.length ≤ n; omega
      · exact Nat.zero_le _
    · split
      · rename_i _ he
        have ho := (pgE_zero he).1
        have hl := cut_len (laN R) (bdN R) K op hd
        have hll : (laN R).length ≤ u8 R 26 := by unfold laN seg; rw [List.length_drop, List.length_take]; omega
        have hen : endN R = 27 + u8 R 26 + (laN R).sum := rfl
        have := ho.2.2.2.2.1
        exact prs_pk f _ _ _ _ _ n (by rw [List.length_drop]; omega)
      · exact Nat.zero_le _
theorem prsP_len (L : List Nat) : (prsP L).2.1.length ≤ 1000000000000 := by
  unfold prsP
  split
  · exact Nat.zero_le _
  · have := prs_len (L.length + 1) L [] [] false [] (Nat.zero_le _)
    omega
theorem prsP_pkn (L : List Nat) : (prsP L).2.2.length ≤ L.length := by
  unfold prsP
  split
  · exact Nat.zero_le _
  · exact prs_pk (L.length + 1) L [] [] false [] L.length (by simp)

set_option maxRecDepth 20000 in
set_option maxHeartbeats 3200000 in
theorem parses15 {L : World → Prop} (D : Does15 L) (s : ByteArray) (hs : s.size ≤ 140737488351232) (w : World) (hL : L w) : Calls Tryd.prog 3 #[.string s] w fun e w' => e = .returned (.bool true) ∧ Below w.heap.size w w' := by
  have HD := hid D
  have HL := hid hL
  have KA : Hid (∀ wx, Below w.heap.size w wx → Calls Tryd.prog 12 #[] wx fun e w' => e = .returned (.bool true) ∧ Below wx.heap.size wx w') := fun wx hb => awake15 D wx (D.keep _ _ hL hb)
  have KX : Hid (∀ wx, Calls Tryd.prog 9 #[.string s] wx fun e w' => PrsE (prsP (bytesOf s)) e w' ∧ Below wx.heap.size wx w') := fun wx => xparse_any s hs wx
  have kp := D.prs s hs w hL
  have HPL := hid (prsP_len (bytesOf s))
  have HPK : Hid ((prsP (bytesOf s)).2.2.length ≤ 140737488355328) := by
    have := prsP_pkn (bytesOf s)
    rw [bytesOf_length] at this
    show _ ≤ _
    omega
  clear D hL
  go_enter Tryd.func3, Tryd.ntmps3
  generalize prsP (bytesOf s) = r at *
  go_wp2_with fail
  refine kp.mono ?_
  rintro e w1 ⟨⟨ao, pc, bo, kc, rfl, h1, h2, _, _, _, _⟩, hb1⟩
  have H1 : Hid (Below w.heap.size w w1 ∧ PgsAt w1 ao r.2.1 ∧ StrsAt w1 bo (r.2.2.map textOf)) := ⟨hb1, h1, h2⟩
  clear kp h1 h2 hb1
  have kx := KX.out w1
  go_wp2_with fail
  refine kx.mono ?_
  rintro e w2 ⟨⟨ao2, pc2, bo2, kc2, rfl, h1, h2, _, _, _, _⟩, hb2⟩
  have H2 : Hid (Below w.heap.size w w2 ∧ PgsAt w2 ao r.2.1 ∧ StrsAt w2 bo (r.2.2.map textOf) ∧ PgsAt w2 ao2 r.2.1 ∧ StrsAt w2 bo2 (r.2.2.map textOf)) := ⟨below_on H1.out.1 H1.out.1.size hb2, H1.out.2.1.below hb2, H1.out.2.2.below hb2, h1, h2⟩
  clear kx h1 h2 hb2 H1 KX
  have ks := pages_same r.2.1 ao ao2 pc pc2 w2 H2.out.2.1 H2.out.2.2.2.1 HPL.out
  go_wp2_with fail
  refine ks.mono ?_
  rintro e w3 ⟨rfl, hb3⟩
  have H3 : Hid (Below w.heap.size w w3) := below_on H2.out.1 H2.out.1.size hb3
  have kt := texts_same (r.2.2.map textOf) bo bo2 kc kc2 w3 (H2.out.2.2.1.below hb3) (H2.out.2.2.2.2.below hb3) (by rw [List.length_map]; exact HPK.out)
  rw [List.length_map] at kt
  clear ks hb3 H2
  go_wp2_with fail
  refine kt.mono ?_
  rintro e w4 ⟨rfl, hb4⟩
  have H4 : Hid (Below w.heap.size w w4) := below_on H3.out H3.out.size hb4
  have ka := KA.out w4 H4.out
  clear kt hb4 H3 KA
  generalize r.1 = E at *
  have bE : (E == E) = true := by simp
  go_wp2_with fail
  refine ka.mono ?_
  rintro e w5 ⟨rfl, hb5⟩
  have H5 : Hid (Below w.heap.size w w5) := below_on H4.out H4.out.size hb5
  clear ka hb5 H4
  go_wp2_with fail
  go_ret
  exact ⟨rfl, H5.out⟩

end Go.Proofs.YtjkamannjgcmiaaDoor

namespace Go.Proofs.YtjkamannjgcmiaaDoor
open Go.RowKit
set_option linter.unusedSimpArgs false
set_option linter.unusedVariables false

open S2


/-- Block g, from B on, holds the bytes l, and room up to cap. -/
structure Buf (B : Nat) (w : World) (g cap : Nat) (l : List Nat) : Prop where
  base : B ≤ g
  lt : g < w.heap.size
  room : l.length ≤ cap
  there : ∀ j, j < cap → (w.cell? ⟨g, j, none⟩).isSome = true ∧ w.frozen? ⟨g, j, none⟩ = false
  cells : ∀ j, j < l.length → w.cell? ⟨g, j, none⟩ = some (.int .u8 ((l.getD j 0 : Nat) : Int))

theorem Buf.kept {B : Nat} {w w' : World} {g cap : Nat} {l : List Nat} (h : Buf B w g cap l) (hb : w'.heap[g]? = w.heap[g]?) (hs : w.heap.size ≤ w'.heap.size) : Buf B w' g cap l := by
  refine ⟨h.base, Nat.lt_of_lt_of_le h.lt hs, h.room, fun j hj => ?_, fun j hj => ?_⟩
  · rw [World.cell?_of_block (a := ⟨g, j, none⟩) hb, World.frozen?_of_block (a := ⟨g, j, none⟩) hb]
    exact h.there j hj
  · rw [World.cell?_of_block (a := ⟨g, j, none⟩) hb]
    exact h.cells j hj

theorem Buf.set {B : Nat} {w : World} {g cap : Nat} {l : List Nat} (h : Buf B w g cap l) (k b : Nat) (hk : k < l.length) : Buf B (w.setCell ⟨g, k, none⟩ (.int .u8 (b : Int))) g cap (l.set k b) := by
  refine ⟨h.base, by have := h.lt; simpa [World.setCell] using this, by rw [List.length_set]; exact h.room, fun j hj => ?_, fun j hj => ?_⟩
  · rw [World.frozen?_setCell]
    refine ⟨?_, (h.there j hj).2⟩
    by_cases e : j = k
    · subst e
      obtain ⟨u, hu⟩ := Option.isSome_iff_exists.1 (h.there _ hj).1
      rw [World.cell?_setCell_same _ _ _ hu]
      rfl
    · rw [World.cell?_setCell_other _ _ _ _ (by simp <;> omega)]
      exact (h.there j hj).1
  · rw [List.length_set] at hj
    by_cases e : j = k
    · subst e
      rw [World.cell?_setCell_same _ _ _ (h.cells j hj), List.getD_eq_getElem?_getD, List.getElem?_set_self hj]
      rfl
    · rw [World.cell?_setCell_other _ _ _ _ (by simp <;> omega), h.cells j hj, List.getD_eq_getElem?_getD, List.getD_eq_getElem?_getD, List.getElem?_set_ne (by omega)]

/-- The bytes of a text. -/
theorem run_buf_make (w : World) (l : List Nat) (hl : ∀ b ∈ l, b < 256) :
    ∃ cap w', (convert 9 51 (.string (textOf l))).run Tryd.prog w = .ok (.slice (some ⟨w.heap.size, 0, none⟩) l.length cap) w' ∧ Buf w.heap.size w' w.heap.size cap l ∧ Below w.heap.size w w' := by
  have hrun := run_bytes_of_string (P := Tryd.prog) w 9 51 5 (textOf l) Tryd.underlying9 Tryd.underlying51 Tryd.underlying5
  rw [textOf_size] at hrun
  have hge := grownCap_ge w l.length 0 5
  generalize grownCap w l.length 0 5 = cap at *
  have hsz : (bytesRow (textOf l) cap).size = cap := by
    have : (textOf l).data.size = l.length := textOf_size l
    simp [bytesRow, this, textOf_size]
    omega
  rw [hsz] at hrun
  refine ⟨cap, _, hrun, ⟨Nat.le_refl _, by simp, hge, fun j hj => ?_, fun j hj => ?_⟩, ⟨rfl, rfl, rfl, by simp, fun k hk => Below.heap_alloc w.drew _ k hk⟩⟩
  · have hf := World.frozen?_alloc_mark w.drew (bytesRow (textOf l) cap) 5 cap (cap + 1) j
    have hc := World.cell?_alloc_mark w.drew (bytesRow (textOf l) cap) 5 (cap, cap + 1) j
    constructor
    · have : ((w.drew.alloc (.cells (bytesRow (textOf l) cap) 5 (cap, cap + 1))).cell? ⟨w.heap.size, j, none⟩) = (bytesRow (textOf l) cap)[j]? := hc
      rw [this, Array.getElem?_eq_getElem (by omega)]
      rfl
    · have : ((w.drew.alloc (.cells (bytesRow (textOf l) cap) 5 (cap, cap + 1))).frozen? ⟨w.heap.size, j, none⟩) = (decide (cap ≤ j) && decide (j < cap + 1)) := hf
      rw [this]
      simp
      omega
  · have hc := World.cell?_alloc_mark w.drew (bytesRow (textOf l) cap) 5 (cap, cap + 1) j
    have h1 : ((w.drew.alloc (.cells (bytesRow (textOf l) cap) 5 (cap, cap + 1))).cell? ⟨w.heap.size, j, none⟩) = (bytesRow (textOf l) cap)[j]? := hc
    have hd : j < (textOf l).data.size := by
      have : (textOf l).data.size = l.length := textOf_size l
      omega
    rw [h1, bytesRow_at (textOf l) cap j hd]
    have hb := bytesOf_get (textOf l) j (by rw [textOf_size]; exact hj)
    have hbl := bytesOf_textOf l hl
    have h2 : ((textOf l).data[j]'hd).toNat = l.getD j 0 := by
      have e : ((textOf l).data[j]'hd).toNat = ((textOf l)[j]'(by rw [textOf_size]; exact hj)).toNat := rfl
      rw [e, ← hb, List.getD_eq_getElem?_getD, List.getElem?_eq_getElem hj]
      simp [hbl]
    rw [h2]

/-- .. and back. -/
theorem run_buf_text {B : Nat} {w : World} {g cap : Nat} {l : List Nat} (h : Buf B w g cap l) (n : Nat) (hn : n = l.length) : (convert 51 9 (.slice (some ⟨g, 0, none⟩) n cap)).run Tryd.prog w = .ok (.string (textOf l)) w := by
  subst hn
  rw [textOf_eq]
  refine run_convert_bytes_arg w 51 5 Tryd.underlying51 Tryd.underlying5 g 0 l.length cap _ (by simp) (fun i hi => ?_) 9 Tryd.underlying9
  rw [Nat.zero_add, h.cells i hi]
  simp [List.getD, hi]


theorem place (a : Int) (n : Nat) (hn : n ≠ 0) (hl : n ≤ 200000000000000) : ∃ k : Nat, k < n ∧ (wrap64 (a.tmod (n : Int) + (n : Int))).tmod (n : Int) = (k : Int) := by
  have h1 := Int.tmod_lt_of_pos a (show (0 : Int) < (n : Int) by omega)
  have h2 := Int.lt_tmod_of_pos a (show (0 : Int) < (n : Int) by omega)
  generalize a.tmod (n : Int) = r at *
  have e : wrap64 (r + (n : Int)) = r + (n : Int) := by
    unfold wrap64
    omega
  rw [e]
  have h3 := Int.tmod_lt_of_pos (r + (n : Int)) (show (0 : Int) < (n : Int) by omega)
  have h4 := Int.tmod_nonneg (n : Int) (show 0 ≤ r + (n : Int) by omega)
  generalize (r + (n : Int)).tmod (n : Int) = z at *
  exact ⟨z.toNat, by omega, by omega⟩

end Go.Proofs.YtjkamannjgcmiaaDoor

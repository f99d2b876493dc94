/- Own text. -/
import Derived.Test.YtfpfabmbipmipaaGreatDoorB16
import Derived.Test.YtfpfabmbipmipaaGreatDoorChecked
import Derived.Deep.AppendLies
import Derived.BigRegion
set_option linter.unusedSimpArgs false
set_option linter.unusedVariables false
set_option maxRecDepth 20000
set_option maxHeartbeats 12800000
namespace Go.Proofs.YtfpfabmbipmipaaGreatDoor
open Go.RowKit
namespace S3
def c8 (s : ByteArray) : Nat := (crcL p8 0#8 (bytesOf s)).toNat
def c16 (s : ByteArray) : Nat := (crcL p16 0#16 (bytesOf s)).toNat
theorem xor0 (n : Nat) (h : n < 4294967296) : bits .xor .u32 (n : Int) 0 = (n : Int) := by
 have := u32_xor_nat n 0 h (by decide)
 simpa using this
theorem value_8 (q : Nat) (l : List Nat) (w : World) (h : S8 w q (crcL P8 0#32 l).toNat) : Calls Tryz.prog 124 #[.pointer (some ⟨q, 0, none⟩)] w fun e w' => e = .returned (.int .i64 (((crcL p8 0#8 l).toNat : Nat) : Int)) /\ ∃ n, w' = w.drewN n := by
 refine value_spec q 8 8 7 0 false _ _ _ (by decide) (by decide) ?_ (by have := (crcL p8 0#8 l).isLt; omega) w h
 rw [xor0 _ (lt32 _), <- crc8_up l]
 simp
theorem value_16 (q : Nat) (l : List Nat) (w : World) (h : S16 w q (crcL P16 0#32 l).toNat) : Calls Tryz.prog 124 #[.pointer (some ⟨q, 0, none⟩)] w fun e w' => e = .returned (.int .i64 (((crcL p16 0#16 l).toNat : Nat) : Int)) /\ ∃ n, w' = w.drewN n := by
 refine value_spec q 16 16 32773 0 false _ _ _ (by decide) (by decide) ?_ (by have := (crcL p16 0#16 l).isLt; omega) w h
 rw [xor0 _ (lt32 _), <- crc16_up l]
 simp
theorem Below.drewN_right {B : Nat} {a w : World} (h : Below B a w) (n : Nat) : Below B a (w.drewN n) := ⟨h.os, h.tape, h.output, h.size, h.block⟩
theorem sumOf_of (k : Int) (s : ByteArray) (v : Nat) (A B : World -> Nat -> Prop)
  (hnew : ∀ w, RulesAt w -> Calls Tryz.prog 122 #[.int .i64 k] w fun e w' => ∃ q, e = .returned (.pointer (some ⟨q, 0, none⟩)) /\ w.heap.size <= q /\ A w' q /\ Lo w w')
  (hadd : ∀ w q, A w q -> Calls Tryz.prog 123 #[.pointer (some ⟨q, 0, none⟩), .string s] w fun e w' => e = .returned (.tuple #[]) /\ B w' q /\ Only q w w')
  (hval : ∀ w q, B w q -> Calls Tryz.prog 124 #[.pointer (some ⟨q, 0, none⟩)] w fun e w' => e = .returned (.int .i64 (v : Int)) /\ ∃ n, w' = w.drewN n)
  (w : World) (hR : RulesAt w) :
  Calls Tryz.prog 68 #[.int .i64 k, .string s] w fun e w' => e = .returned (.int .i64 (v : Int)) /\ Lo w w' := by
 have HN := kQ hnew
 have HA := kQ hadd
 have HV := kQ hval
 clear hnew hadd hval
 go_enter Tryz.func68, Tryz.ntmps68
 go_wp2_with fail
 refine (HN.out w hR).mono ?_
 rintro e w1 ⟨q, rfl, hq, hA, hB⟩
 have HAq := kQ hA
 have HB := kQ hB
 have HQ := kQ hq
 clear hA hB hq
 go_wp2_with fail
 refine (HA.out w1 q HAq.out).mono ?_
 rintro e w2 ⟨rfl, hb, ho⟩
 have HBq := kQ hb
 have HO := kQ ho
 clear hb ho
 go_wp2_with fail
 refine (HV.out w2 q HBq.out).mono ?_
 rintro e w3 ⟨rfl, n, rfl⟩
 go_wp2
 go_ret
 exact ⟨rfl, Below.drewN_right (HB.out.trans (HO.out.below HQ.out)) n⟩
theorem crc8_sum (s : ByteArray) (hs : s.size <= 200000000000000) (w : World) (hR : RulesAt w) : Calls Tryz.prog 68 #[.int .i64 8, .string s] w fun e w' => e = .returned (.int .i64 (c8 s : Int)) /\ Lo w w' :=
 sumOf_of 8 s (c8 s) (fun w q => S8 w q 0) (fun w q => S8 w q (crcL P8 0#32 (bytesOf s)).toNat) new_8 (fun w q h => add_high q 8 8 7 0 P8 0#32 s hs w h) (fun w q h => value_8 q _ w h) w hR
theorem crc8_spec (s : ByteArray) (hs : s.size <= 200000000000000) (w : World) (hR : RulesAt w) : Calls Tryz.prog 63 #[.string s] w fun e w' => e = .returned (.int .i64 (c8 s : Int)) /\ Lo w w' := by
 have HC : Hid (G1 68 #[.int .i64 8, .string s] w (.int .i64 (c8 s : Int))) := crc8_sum s hs w hR
 generalize c8 s = v at HC ⊢
 clear hR
 go_enter Tryz.func63, Tryz.ntmps63
 go_wp2_with fail
 refine HC.out.mono ?_
 rintro e w1 ⟨rfl, hB⟩
 have HB := kQ hB
 clear hB
 go_wp2
 go_ret
 exact ⟨rfl, HB.out⟩
theorem crc16_sum (s : ByteArray) (hs : s.size <= 200000000000000) (w : World) (hR : RulesAt w) : Calls Tryz.prog 68 #[.int .i64 16, .string s] w fun e w' => e = .returned (.int .i64 (c16 s : Int)) /\ Lo w w' :=
 sumOf_of 16 s (c16 s) (fun w q => S16 w q 0) (fun w q => S16 w q (crcL P16 0#32 (bytesOf s)).toNat) new_16 (fun w q h => add_high q 16 16 32773 0 P16 0#32 s hs w h) (fun w q h => value_16 q _ w h) w hR
theorem crc16_spec (s : ByteArray) (hs : s.size <= 200000000000000) (w : World) (hR : RulesAt w) : Calls Tryz.prog 25 #[.string s] w fun e w' => e = .returned (.int .i64 (c16 s : Int)) /\ Lo w w' := by
 have HC : Hid (G1 68 #[.int .i64 16, .string s] w (.int .i64 (c16 s : Int))) := crc16_sum s hs w hR
 generalize c16 s = v at HC ⊢
 clear hR
 go_enter Tryz.func25, Tryz.ntmps25
 go_wp2_with fail
 refine HC.out.mono ?_
 rintro e w1 ⟨rfl, hB⟩
 have HB := kQ hB
 clear hB
 go_wp2
 go_ret
 exact ⟨rfl, HB.out⟩
end S3
end Go.Proofs.YtfpfabmbipmipaaGreatDoor
namespace Go.Proofs.YtfpfabmbipmipaaGreatDoor
open Go.RowKit
theorem wrap_is (n : Int) : IntKind.i64.wrap n = wrap64 n := by unfold wrap64; exact IntKind.wrap_i64 n
theorem tmp_new (X : World) (v : Value) : (X.alloc (.cells #[v] 3)).heap[X.heap.size]? = some (.cells #[v] 3 (0, 0)) := heap_alloc_new _ _
theorem own_low {N : Nat} {e : TypeId} {z : Nat} {v : Value} {n : Nat} {xs : List Value} {w w' : World} (h : w.ownsRow N e z v n xs) (hb : Lo w w') : w'.ownsRow N e z v n xs := by
 refine h.kept (row := none) ⟨hb.os, hb.tape, hb.output, hb.size, fun k hk _ => hb.block k hk⟩ ?_
 cases e : v.ownBlock with
 | none => exact .inl rfl
 | some g => exact .inr (fun h => by cases h)
theorem own_ints {N : Nat} {ao : OA} {cap : Nat} {L : List Int} {w : World} (h : w.ownsRow N 3 1 (.slice ao L.length cap) L.length (intsC L)) (hl : L.length <= 17592186044415) (hn : ∀ n ∈ L, -9223372036854775808 <= n /\ n <= 9223372036854775807) : IntsAt w ao L := by
 refine ⟨hl, hn, fun h0 => ?_⟩
 obtain ⟨g, c, e, _, _⟩ := h.form h0
 simp only [Value.slice.injEq, true_and] at e
 obtain ⟨rfl, rfl⟩ := e
 refine ⟨g, 0, rfl, fun j hj => ?_⟩
 rw [Nat.zero_add, h.cellAt j (by omega)]
 simp [intsC, List.getD_eq_getElem?_getD, List.getElem?_eq_getElem hj]
theorem int_info : ∃ i, Tryz.prog.info? 3 = some i /\ i.zero = some (.int .i64 0) /\ i.size = 1 /\ i.bytes = 8 := by
 have h : (Tryz.prog.info? 3).map (fun i => (i.zero, i.size, i.bytes)) = some (some (.int .i64 0), 1, 8) := by kernel_rfl
 cases hq : Tryz.prog.info? 3 with
 | none => rw [hq] at h; cases h
 | some i =>
  rw [hq] at h
  simp only [Option.map_some, Option.some.injEq, Prod.mk.injEq] at h
  exact ⟨i, rfl, h.1, h.2.1, h.2.2⟩
theorem undI3 : Tryz.prog.underlying 56 = some (.slice 3) := by kernel_rfl
structure Out (w : World) (v : Value) (xs : List Int) (X : World) : Prop where
 own : X.ownsRow w.heap.size 3 1 v xs.length (intsC xs)
 below : Lo w X
theorem IntsAt.news {w : World} {ao : OA} {l : List Int} (h : IntsAt w ao l) : ∀ ad, ao = some ad -> ∀ j u, (intsC l)[j]? = some u -> w.cell? (ad.add j) = some u := fun ad e j u hu => by
 have hj : j < l.length := by
  have := (List.getElem?_eq_some_iff.1 hu).1
  rw [intsC_length] at this; exact this
 obtain ⟨b, off, e2, hc⟩ := h.lies (by omega)
 rw [e2] at e; cases e
 rw [Addr.add_mid, hc j hj]
 unfold intsC at hu
 rw [List.getElem?_map, List.getElem?_eq_getElem hj] at hu
 rw [List.getD_eq_getElem?_getD, List.getElem?_eq_getElem hj]
 exact hu
theorem cell_row {w : World} {b : Nat} {cs : Array Value} {t : TypeId} {fr : Nat × Nat} (h : w.heap[b]? = some (.cells cs t fr)) (j : Nat) : w.cell? ⟨b, j, none⟩ = cs[j]? := by
 simp [World.cell?, h]
theorem ints_new (w : World) (l : List Int) (hl : l.length <= 1000) (hn : ∀ n ∈ l, -9223372036854775808 <= n /\ n <= 9223372036854775807) : IntsAt (w.alloc (.cells (intsC l).toArray 3)) (some ⟨w.heap.size, 0, none⟩) l := by
 refine ⟨by omega, hn, fun h0 => ⟨w.heap.size, 0, rfl, fun j hj => ?_⟩⟩
 rw [cell_row (heap_alloc_new _ _)]
 rw [Nat.zero_add, List.getElem?_toArray]
 unfold intsC
 rw [List.getElem?_map, List.getElem?_eq_getElem hj, List.getD_eq_getElem?_getD, List.getElem?_eq_getElem hj]
 rfl
def ansL (R : Option (List Int)) : List Int := R.getD []
def ansE (R : Option (List Int)) : Int := match R with
 | none => 1
 | some _ => 0
theorem IntsAt.nil (w : World) : IntsAt w none [] := ⟨by simp, by simp, fun h => by simp at h⟩
theorem Out.low {w X X' : World} {v : Value} {xs : List Int} (h : Out w v xs X) (hb : Lo X X') : Out w v xs X' := ⟨own_low h.own hb, h.below.trans (hb.mono h.below.size)⟩
theorem Out.alloc {w X : World} {v : Value} {xs : List Int} (h : Out w v xs X) (o : Obj) : Out w v xs (X.alloc o) := h.low aQ
theorem Out.push {w X : World} {v : Value} {xs : List Int} (h : Out w v xs X) {g cap : Nat} {w1 : World} {p : Int} (ho : w1.ownsRow w.heap.size 3 1 (.slice (some ⟨g, 0, none⟩) (xs.length + 1) cap) (xs.length + 1) (intsC xs ++ [.int .i64 p])) (hg : X.grownBy w1 v.ownBlock) : Out w (.slice (some ⟨g, 0, none⟩) (xs.length + 1) cap) (xs ++ [p]) w1 := by
 refine ⟨by rw [List.length_append, intsC_append]; exact ho, h.below.trans ⟨hg.os, hg.tape, hg.output, hg.size, fun k hk => ?_⟩⟩
 exact hg.block k (by have := h.below.size; omega) (fun e => by have := (h.own.lt k e.symm).1; omega)
abbrev subC (q : Sb) (ca : OA) (cc : Nat) (pa : OA) (pc : Nat) (ea : OA) (ec : Nat) : Array Value := #[.int .i64 q.k, .int .i64 q.o, .int .i64 q.w, .int .i64 q.p, .int .i64 q.h, .slice ca q.C.length cc, .int .i64 q.R.m, .int .i64 q.R.o, .slice pa q.R.P.length pc, .slice ea q.R.E.length ec]
abbrev subV (q : Sb) (ca : OA) (cc : Nat) (pa : OA) (pc : Nat) (ea : OA) (ec : Nat) : Value := .agg (subC q ca cc pa pc ea ec)
abbrev I64 (x : Int) : Prop := -9223372036854775808 <= x /\ x <= 9223372036854775807
structure SbAt (w : World) (q : Sb) (ca pa ea : OA) : Prop where
 C : IntsAt w ca q.C
 R : RcAt w q.R pa ea
 k : I64 q.k
 o : I64 q.o
 w : I64 q.w
 p : I64 q.p
 h : I64 q.h
theorem SbAt.keep {w w' : World} {q : Sb} {ca pa ea : OA} (a : SbAt w q ca pa ea) (hb : ∀ k, k < w.heap.size -> w'.heap[k]? = w.heap[k]?) : SbAt w' q ca pa ea := ⟨a.C.keep hb, a.R.keep hb, a.k, a.o, a.w, a.p, a.h⟩
theorem SbAt.below {w w' : World} {q : Sb} {ca pa ea : OA} (a : SbAt w q ca pa ea) (hb : Lo w w') : SbAt w' q ca pa ea := a.keep hb.block
abbrev S0 : Sb := ⟨0, 0, 0, 0, 0, [], R0⟩
abbrev okS (q : Sb) (v : Int) (l : List Int) : Prop := subOk q l.length v /\ goesOk q v l
def Fr (n : Nat) (ao : OA) : Prop := ∀ b, blockOf ao = some b -> n <= b
structure Does10 : Prop where
 enc_ok : ∀ (q : Sb) (v : Int) (l : List Int) (ca : OA) (cc : Nat) (pa : OA) (pc : Nat) (ea : OA) (ec : Nat) (lo : OA) (cap p : Nat) (ao : OA) (B : List Nat) (w : World), l.length <= cap -> (lo = none -> cap = 0) -> (ca = none -> cc = 0) -> q.C.length <= cc -> Bits01 B -> B.length <= 1200000000000 -> SbAt w q ca pa ea -> IntsAt w lo l -> WrB w p ao B -> Apart p ao ca q.C -> Apart p ao pa q.R.P -> Apart p ao ea q.R.E -> Apart p ao lo l -> okS q v l ->
  Calls Tryz.prog 64 #[.pointer (some ⟨p, 0, none⟩), subV q ca cc pa pc ea ec, .int .i64 v, .slice lo l.length cap] w fun e w' => e = .returned (.int .i64 0) /\ ∃ ao', WrB w' p ao' (B ++ subB q v l) /\ Stays (foot p ao) w w' /\ Moved w.heap.size ao ao'
 enc_no : ∀ (q : Sb) (v : Int) (l : List Int) (ca : OA) (cc : Nat) (pa : OA) (pc : Nat) (ea : OA) (ec : Nat) (lo : OA) (cap p : Nat) (ao : OA) (B : List Nat) (w : World), l.length <= cap -> (lo = none -> cap = 0) -> (ca = none -> cc = 0) -> q.C.length <= cc -> l.length <= 65535 -> I64 v -> Bits01 B -> B.length <= 1200000000000 -> SbAt w q ca pa ea -> IntsAt w lo l -> WrB w p ao B -> Apart p ao ca q.C -> Apart p ao pa q.R.P -> Apart p ao ea q.R.E -> Apart p ao lo l -> ¬ okS q v l ->
  Calls Tryz.prog 64 #[.pointer (some ⟨p, 0, none⟩), subV q ca cc pa pc ea ec, .int .i64 v, .slice lo l.length cap] w fun e w' => e = .returned (.int .i64 60) /\ Lo w w'
 dec_ok : ∀ (x : Nat) (s : ByteArray) (a : Nat) (b v : Int) (l : List Int) (q : Sb) (a1 : Nat) (w : World), s.size <= 140737488351232 -> a <= 8 * s.size -> (1 <= b /\ b <= 65535) -> (1 <= v /\ v <= 33) -> Rd w x s a -> decS s a b v = some (l, q, a1) ->
  Calls Tryz.prog 102 #[.pointer (some ⟨x, 0, none⟩), .int .i64 b, .int .i64 v] w fun e w' => ∃ la lc ca cc pa pc ea ec, e = .returned (.tuple #[.slice la l.length lc, subV q ca cc pa pc ea ec, .int .i64 0]) /\ IntsAt w' la l /\ (l.length <= lc /\ (la = none -> lc = 0)) /\ SbAt w' q ca pa ea /\ (q.C.length <= cc /\ (ca = none -> cc = 0)) /\ (Fr w.heap.size la /\ Fr w.heap.size ca /\ Fr w.heap.size pa /\ Fr w.heap.size ea) /\ Rd w' x s a1 /\ Stays (only x) w w'
 dec_no : ∀ (x : Nat) (s : ByteArray) (a : Nat) (b v : Int) (w : World), s.size <= 140737488351232 -> a <= 8 * s.size -> (1 <= b /\ b <= 65535) -> (1 <= v /\ v <= 33) -> Rd w x s a -> decS s a b v = none ->
  Calls Tryz.prog 102 #[.pointer (some ⟨x, 0, none⟩), .int .i64 b, .int .i64 v] w fun e w' => e = .returned (.tuple #[.slice none 0 0, subV S0 none 0 none 0 none 0, .int .i64 2]) /\ Stays (only x) w w'
 dec_arg : ∀ (x : Nat) (s : ByteArray) (a : Nat) (b v : Int) (w : World), I64 b -> I64 v -> Rd w x s a -> ¬ ((1 <= b /\ b <= 65535) /\ (1 <= v /\ v <= 33)) ->
  Calls Tryz.prog 102 #[.pointer (some ⟨x, 0, none⟩), .int .i64 b, .int .i64 v] w fun e w' => e = .returned (.tuple #[.slice none 0 0, subV S0 none 0 none 0 none 0, .int .i64 1]) /\ Lo w w'
theorem sub_cells {w : World} {g : Nat} {q : Sb} {ca : OA} {cc : Nat} {pa : OA} {pc : Nat} {ea : OA} {ec : Nat} (h : w.heap[g]? = some (.cells (subC q ca cc pa pc ea ec) 67 (0, 0))) :
  w.cell? ⟨g, 0, none⟩ = some (.int .i64 q.k) /\ w.cell? ⟨g, 1, none⟩ = some (.int .i64 q.o) /\ w.cell? ⟨g, 2, none⟩ = some (.int .i64 q.w) /\ w.cell? ⟨g, 3, none⟩ = some (.int .i64 q.p) /\ w.cell? ⟨g, 4, none⟩ = some (.int .i64 q.h) /\ w.cell? ⟨g, 5, none⟩ = some (.slice ca q.C.length cc) /\ w.cell? ⟨g, 6, none⟩ = some (.int .i64 q.R.m) /\ w.cell? ⟨g, 7, none⟩ = some (.int .i64 q.R.o) /\ w.cell? ⟨g, 8, none⟩ = some (.slice pa q.R.P.length pc) /\ w.cell? ⟨g, 9, none⟩ = some (.slice ea q.R.E.length ec) := by
 refine ⟨?_, ?_, ?_, ?_, ?_, ?_, ?_, ?_, ?_, ?_⟩ <;> (rw [cell_of_row _ _ _ _ _ _ h]; rfl)
theorem ints_same (l : List Int) (a b : OA) (c d : Nat) (w : World) (hl : IntsAt w a l) (hm : IntsAt w b l) :
  Calls Tryz.prog 55 #[.slice a l.length c, .slice b l.length d] w fun e w' => e = .returned (.bool true) /\ ∃ n, w' = w.drewN n := by
 have h1 := hl.len
 have HL := kQ hl
 have HM := kQ hm
 clear hl hm
 go_enter Tryz.func55, Tryz.ntmps55
 go_wp2_with fail
 go_loopw [5] (fun t wr => ∃ k n : Nat, k <= l.length /\ t = .int .i64 (k : Int) /\ wr = w.drewN n) (fun t _ => l.length - (intOf t).toNat)
 case atStart => exact ⟨0, 0, Nat.zero_le _, rfl, rfl⟩
 case round =>
  obtain ⟨k, n, hk, rfl, hw⟩ := hrel
  have HW := kQ hw
  clear hw
  by_cases hlt : k < l.length
  ·obtain ⟨b1, o1, rfl, q1⟩ := HL.out.at k hlt
   obtain ⟨b2, o2, rfl, q2⟩ := HM.out.at k hlt
   have r1 := q1 wr (by rw [HW.out]; exact below_drewN _ _)
   have r2 := q2 wr (by rw [HW.out]; exact below_drewN _ _)
   clear q1 q2
   generalize l.getD k 0 = x at *
   go_wp2_with fail
   go_quiet (fail)
   go_wp2_with fail
   go_roundw
   case rel => exact ⟨k + 1, n + nq, by omega, by go_num, by rw [HW.out, World.drewN_drewN]⟩
   case measure => simp [intOf]; omega
  ·go_wp2_with fail
   go_ret
   exact ⟨rfl, n, HW.out⟩
theorem rsame_same (c : Rc) (pa : OA) (pc : Nat) (ea : OA) (ec : Nat) (pb : OA) (pd : Nat) (eb : OA) (ed : Nat) (w : World) (hr : RcAt w c pa ea) (hq : RcAt w c pb eb) :
  Calls Tryz.prog 112 #[riceV c pa pc ea ec, riceV c pb pd eb ed] w fun e w' => e = .returned (.bool true) /\ Lo w w' := by
 have HR := kQ hr
 have HQ := kQ hq
 have hlP := hr.P.len
 have hlE := hr.E.len
 have HA0 : Hid (RB w c pa pc ea ec ((w.alloc (.cells (riceC c pa pc ea ec) 65)).alloc (.cells (riceC c pb pd eb ed) 65)) /\ ((w.alloc (.cells (riceC c pa pc ea ec) 65)).alloc (.cells (riceC c pb pd eb ed) 65)).heap[w.heap.size + 1]? = some (.cells (riceC c pb pd eb ed) 65 (0, 0))) := by
  refine ⟨(RB.new w c pa pc ea ec).next aQ, ?_⟩
  have hh := heap_alloc_new (w.alloc (.cells (riceC c pa pc ea ec) 65)) (.cells (riceC c pb pd eb ed) 65)
  rw [show (w.alloc (.cells (riceC c pa pc ea ec) 65)).heap.size = w.heap.size + 1 from by simp] at hh
  exact hh
 clear hr hq
 go_enter Tryz.func112, Tryz.ntmps112
 go_wp2_with fail
 generalize World.alloc _ _ = wa at *
 go_loopw [5] (fun t wr => ∃ k : Nat, k <= c.P.length /\ t = .int .i64 (k : Int) /\ RB w c pa pc ea ec wr /\ wr.heap[w.heap.size + 1]? = some (.cells (riceC c pb pd eb ed) 65 (0, 0))) (fun t _ => c.P.length - (intOf t).toNat)
 case atStart => exact ⟨0, Nat.zero_le _, rfl, HA0.out⟩
 case round =>
  obtain ⟨k, hk, rfl, h1, h2⟩ := hrel
  have HA : Hid (RB w c pa pc ea ec wr /\ wr.heap[w.heap.size + 1]? = some (.cells (riceC c pb pd eb ed) 65 (0, 0))) := ⟨h1, h2⟩
  have x2 := h1.c2
  have y2 : wr.cell? ⟨w.heap.size + 1, 2, none⟩ = some (.slice pb c.P.length pd) := by rw [cell_of_row _ _ _ _ _ _ h2]; rfl
  by_cases hlt : k < c.P.length
  ·obtain ⟨b1, o1, e1, q1⟩ := HR.out.P.at k hlt
   obtain ⟨b2, o2, e2, q2⟩ := HQ.out.P.at k hlt
   have r1 := q1 wr h1.below
   have r2 := q2 wr h1.below
   rw [e1] at x2
   rw [e2] at y2
   clear q1 q2 e1 e2 h1 h2
   generalize c.P.getD k 0 = x at *
   go_wp2_with fail
   go_quiet (fail)
   go_wp2_with fail
   go_roundw
   case rel => exact ⟨k + 1, by omega, by go_num, HA.out.1.drewN _, HA.out.2⟩
   case measure => simp [intOf]; omega
  ·clear h1 h2
   go_wp2_with fail
   clear HA0
   have HA0 := HA
   clear HA
   go_loopw [6] (fun t wr => ∃ k : Nat, k <= c.E.length /\ t = .int .i64 (k : Int) /\ RB w c pa pc ea ec wr /\ wr.heap[w.heap.size + 1]? = some (.cells (riceC c pb pd eb ed) 65 (0, 0))) (fun t _ => c.E.length - (intOf t).toNat)
   case atStart => exact ⟨0, Nat.zero_le _, rfl, HA0.out⟩
   case round =>
    obtain ⟨k, hk, rfl, h1, h2⟩ := hrel
    have HA : Hid (RB w c pa pc ea ec wr /\ wr.heap[w.heap.size + 1]? = some (.cells (riceC c pb pd eb ed) 65 (0, 0))) := ⟨h1, h2⟩
    have x3 := h1.c3
    have y3 : wr.cell? ⟨w.heap.size + 1, 3, none⟩ = some (.slice eb c.E.length ed) := by rw [cell_of_row _ _ _ _ _ _ h2]; rfl
    by_cases hlt : k < c.E.length
    ·obtain ⟨b1, o1, e1, q1⟩ := HR.out.E.at k hlt
     obtain ⟨b2, o2, e2, q2⟩ := HQ.out.E.at k hlt
     have r1 := q1 wr h1.below
     have r2 := q2 wr h1.below
     rw [e1] at x3
     rw [e2] at y3
     clear q1 q2 e1 e2 h1 h2
     generalize c.E.getD k 0 = x at *
     go_wp2_with fail
     go_quiet (fail)
     go_wp2_with fail
     go_roundw
     case rel => exact ⟨k + 1, by omega, by go_num, HA.out.1.drewN _, HA.out.2⟩
     case measure => simp [intOf]; omega
    ·clear h1 h2
     go_wp2_with fail
     go_ret
     exact ⟨rfl, HA.out.1.below⟩
theorem sub_same (q : Sb) (ca : OA) (cc : Nat) (pa : OA) (pc : Nat) (ea : OA) (ec : Nat) (cb : OA) (cd : Nat) (pb : OA) (pd : Nat) (eb : OA) (ed : Nat) (w : World) (hr : SbAt w q ca pa ea) (hq : SbAt w q cb pb eb) :
  Calls Tryz.prog 56 #[subV q ca cc pa pc ea ec, subV q cb cd pb pd eb ed] w fun e w' => e = .returned (.bool true) /\ Lo w w' := by
 have HA0 : Hid (((w.alloc (.cells (subC q ca cc pa pc ea ec) 67)).alloc (.cells (subC q cb cd pb pd eb ed) 67)).heap[w.heap.size]? = some (.cells (subC q ca cc pa pc ea ec) 67 (0, 0)) /\ ((w.alloc (.cells (subC q ca cc pa pc ea ec) 67)).alloc (.cells (subC q cb cd pb pd eb ed) 67)).heap[w.heap.size + 1]? = some (.cells (subC q cb cd pb pd eb ed) 67 (0, 0)) /\ Lo w ((w.alloc (.cells (subC q ca cc pa pc ea ec) 67)).alloc (.cells (subC q cb cd pb pd eb ed) 67))) := by
  refine ⟨heap_two _ _ _, ?_, aQ.alloc (by simp) _⟩
  have hh := heap_alloc_new (w.alloc (.cells (subC q ca cc pa pc ea ec) 67)) (.cells (subC q cb cd pb pd eb ed) 67)
  rw [show (w.alloc (.cells (subC q ca cc pa pc ea ec) 67)).heap.size = w.heap.size + 1 from by simp] at hh
  exact hh
 have KI : Hid (∀ wx, Lo w wx -> Calls Tryz.prog 55 #[.slice ca q.C.length cc, .slice cb q.C.length cd] wx fun e w' => e = .returned (.bool true) /\ ∃ n, w' = wx.drewN n) := fun wx hb => ints_same q.C ca cb cc cd wx (hr.C.below hb) (hq.C.below hb)
 have KR : Hid (∀ wx, Lo w wx -> G1 112 #[riceV q.R pa pc ea ec, riceV q.R pb pd eb ed] wx (.bool true)) := fun wx hb => rsame_same q.R pa pc ea ec pb pd eb ed wx (hr.R.below hb) (hq.R.below hb)
 clear hr hq
 go_enter Tryz.func56, Tryz.ntmps56
 go_upto_region 1 with fail
 generalize World.alloc _ _ = wa at *
 obtain ⟨x0, x1, x2, x3, x4, x5, x6, x7, x8, x9⟩ := sub_cells HA0.out.1
 obtain ⟨y0, y1, y2, y3, y4, y5, y6, y7, y8, y9⟩ := sub_cells HA0.out.2.1
 go_wp2_with fail
 refine (KI.out wa HA0.out.2.2).mono ?_
 rintro e w2 ⟨rfl, n2, hw2⟩
 have hb2 : Lo wa w2 := by rw [hw2]; exact below_drewN _ _
 have HB2 := kQ (HA0.out.2.2.trans (hb2.mono HA0.out.2.2.size))
 have h1 : w2.heap[w.heap.size]? = some (.cells (subC q ca cc pa pc ea ec) 67 (0, 0)) := by rw [hb2.block _ (lt_of_block HA0.out.1)]; exact HA0.out.1
 have h2 : w2.heap[w.heap.size + 1]? = some (.cells (subC q cb cd pb pd eb ed) 67 (0, 0)) := by rw [hb2.block _ (lt_of_block HA0.out.2.1)]; exact HA0.out.2.1
 clear x0 x1 x2 x3 x4 x5 x6 x7 x8 x9 y0 y1 y2 y3 y4 y5 y6 y7 y8 y9 hb2 hw2
 obtain ⟨x0, x1, x2, x3, x4, x5, x6, x7, x8, x9⟩ := sub_cells h1
 obtain ⟨y0, y1, y2, y3, y4, y5, y6, y7, y8, y9⟩ := sub_cells h2
 clear h1 h2
 go_wp2_with fail
 refine (KR.out w2 HB2.out).mono ?_
 rintro e w3 ⟨rfl, hb3⟩
 have HB3 := kQ (HB2.out.trans (hb3.mono HB2.out.size))
 clear hb3 x0 x1 x2 x3 x4 x5 x6 x7 x8 x9 y0 y1 y2 y3 y4 y5 y6 y7 y8 y9
 go_wp2_with fail
 go_ret
 exact ⟨rfl, HB3.out⟩
def fixR (o : Int) (l : List Int) : Option (List Int) := if 0 <= o /\ o <= 4 /\ o <= (l.length : Int) then some (leftN (wF o.toNat) 0 l (l.length - o.toNat)) else none
def unfR (o : Int) (warm l : List Int) : Option (List Int) := if 0 <= o /\ o <= 4 /\ (warm.length : Int) = o then some (wholeN (wF o.toNat) 0 warm l l.length) else none
def mayB (C : List Int) (sh : Int) : Bool := decide (1 <= C.length) && decide (C.length <= 32) && decide (0 <= sh) && decide (sh <= 31)
def lpcR (C : List Int) (sh : Int) (l : List Int) : Option (List Int) := if mayB C sh = true /\ C.length <= l.length then some (leftN C sh.toNat l (l.length - C.length)) else none
def unlR (C : List Int) (sh : Int) (warm l : List Int) : Option (List Int) := if mayB C sh = true /\ warm.length = C.length then some (wholeN C sh.toNat warm l l.length) else none
theorem mayB_iff (C : List Int) (sh : Int) : mayB C sh = true ↔ 1 <= C.length /\ C.length <= 32 /\ 0 <= sh /\ sh <= 31 := by unfold mayB; simp [and_assoc]
theorem make_ints (n : Nat) (hn : n <= 17592186044415) (w : World) : (Instr.makeSlice 56 (.int .i64 (n : Int)) (.int .i64 (n : Int))).run Tryz.prog w = .ok (.slice (some ⟨w.heap.size, 0, none⟩) n n) (w.alloc (.cells (madeCells #[.int .i64 0] n) 3)) := by
 obtain ⟨i, h1, h2, h3, h4⟩ := int_info
 have hh := run_make (P := Tryz.prog) w 56 3 i _ undI3 h1 h2 .i64 .i64 (n : Int) (n : Int) (by omega) (Int.le_refl _) (by rw [h4]; omega) (by omega)
 rw [h3] at hh
 simpa [Value.cells] using hh
structure Fill (w : World) (g : Nat) (L : List Int) (i : Nat) (wx : World) : Prop where
 row : ∃ cs : Array Value, wx.heap[g]? = some (.cells cs 3 (0, 0)) /\ ∀ j, j < L.length -> cs[j]? = some (.int .i64 (if j < i then L.getD j 0 else 0))
 below : Lo w wx
 le : w.heap.size <= g
section
variable {w wx w' : World} {g : Nat} {L : List Int} {i : Nat}
theorem Fill.made (w wx : World) (hb : Lo w wx) (L : List Int) : Fill w wx.heap.size L 0 (wx.alloc (.cells (madeCells #[.int .i64 0] L.length) 3)) := by
 refine ⟨⟨_, heap_alloc_new _ _, fun j hj => ?_⟩, hb.alloc hb.size _, hb.size⟩
 rw [if_neg (Nat.not_lt_zero _)]
 simp only [madeCells, Array.getElem?_map, Array.getElem?_range, hj, if_true, Option.map_some]
 have hs : (#[.int .i64 0] : Array Value).size = 1 := rfl
 rw [hs, Nat.mod_one]
 rfl
theorem Fill.low (h : Fill w g L i wx) (hb : Lo wx w') : Fill w g L i w' := by
 obtain ⟨cs, h1, h2⟩ := h.row
 exact ⟨⟨cs, by rw [hb.block _ (lt_of_block h1)]; exact h1, h2⟩, h.below.trans (hb.mono h.below.size), h.le⟩
theorem Fill.drew (h : Fill w g L i wx) : Fill w g L i wx.drew := h.low dQ
theorem Fill.cell (h : Fill w g L i wx) (j : Nat) (hj : j < L.length) : wx.cell? ⟨g, j, none⟩ = some (.int .i64 (if j < i then L.getD j 0 else 0)) := by
 obtain ⟨cs, h1, h2⟩ := h.row
 rw [cell_row h1]; exact h2 j hj
theorem Fill.frozen (h : Fill w g L i wx) (j : Nat) : wx.frozen? ⟨g, j, none⟩ = false := by
 obtain ⟨cs, h1, _⟩ := h.row
 simp [World.frozen?, h1]
theorem Fill.set (h : Fill w g L i wx) (hi : i < L.length) : Fill w g L (i + 1) (wx.setCell ⟨g, i, none⟩ (.int .i64 (L.getD i 0))) := by
 obtain ⟨cs, h1, h2⟩ := h.row
 refine ⟨⟨cs.setIfInBounds i (.int .i64 (L.getD i 0)), heap_setCell_same _ _ _ _ _ _ h1, fun j hj => ?_⟩, h.below.setCell h.le _, h.le⟩
 rw [Array.getElem?_setIfInBounds]
 by_cases e : i = j
 ·subst e
  have hlt : i < cs.size := by
   rcases Nat.lt_or_ge i cs.size with h3 | h3
   ·exact h3
   ·have := h2 i hi; rw [Array.getElem?_eq_none h3] at this; cases this
  rw [if_pos rfl, if_pos hlt, if_pos (by omega)]
 ·rw [if_neg e, h2 j hj]
  by_cases e2 : j < i
  ·rw [if_pos e2, if_pos (by omega)]
  ·rw [if_neg e2, if_neg (by omega)]
theorem Fill.other (h : Fill w g L i wx) (p : Addr) (u : Value) (hp : p.block ≠ g) (hl : w.heap.size <= p.block) : Fill w g L i (wx.setCell p u) := by
 obtain ⟨cs, h1, h2⟩ := h.row
 exact ⟨⟨cs, by rw [Below.heap_setCell wx p u g (fun e => hp e.symm)]; exact h1, h2⟩, h.below.setCell hl _, h.le⟩
theorem Fill.ints (h : Fill w g L L.length wx) (hl : L.length <= 17592186044415) (hn : Rng L) : IntsAt wx (some ⟨g, 0, none⟩) L :=
 ⟨hl, hn, fun _ => ⟨g, 0, rfl, fun j hj => by rw [Nat.zero_add, h.cell j hj, if_pos hj]⟩⟩
end
theorem getD_shr (l : List Int) (k j : Nat) : (shrL l k).getD j 0 = l.getD j 0 / 2 ^ k := by
 unfold shrL
 rw [List.getD_eq_getElem?_getD, List.getD_eq_getElem?_getD, List.getElem?_map]
 cases l[j]? with
 | none => simp
 | some x => rfl
theorem getD_shl (l : List Int) (k j : Nat) : (shlL l k).getD j 0 = wrap64 (l.getD j 0 * 2 ^ k) := by
 unfold shlL
 rw [List.getD_eq_getElem?_getD, List.getD_eq_getElem?_getD, List.getElem?_map]
 cases l[j]? with
 | none => simp [wrap64]
 | some x => rfl
theorem foreS_part (C l : List Int) (i n k : Nat) (hk : k <= n) : foreS C ((l.drop i).take n) n k = foreS C l (i + n) k := by
 induction k with
 | zero => rfl
 | succ k ih =>
  unfold foreS
  rw [ih (by omega), getD_part l i n (n - 1 - k) (by omega), show i + (n - 1 - k) = i + n - 1 - k by omega]
theorem foreN_part (C : List Int) (sh : Nat) (l : List Int) (i : Nat) : foreN C sh ((l.drop i).take C.length) C.length = foreN C sh l (i + C.length) := by
 unfold foreN; rw [foreS_part C l i C.length C.length (Nat.le_refl _)]
def shB (k : Int) : Bool := decide (0 <= k) && decide (k <= 31)
theorem shB_iff (k : Int) : shB k = true ↔ 0 <= k /\ k <= 31 := by unfold shB; simp
theorem mayB_sh (C : List Int) (sh : Int) (h1 : 1 <= C.length) (h2 : C.length <= 32) : mayB C sh = shB sh := by
 unfold mayB shB; simp [h1, h2]
theorem qsh_spec (k : Int) (w : World) : Calls Tryz.prog 228 #[.int .i64 k] w fun e w' => e = .returned (.bool (shB k)) /\ w' = w := by
 by_cases g1 : ¬ 0 <= k
 rotate_left
 focus
  skip
  by_cases g2 : ¬ k <= 31
  rotate_left
  ·skip
   have hF : shB k = true := by rw [shB_iff]; omega
   rw [hF]
   clear hF
   go_enter Tryz.func228, Tryz.ntmps228
   go_wp2_with fail
   go_ret
   exact ⟨rfl, rfl⟩
 rotate_left
 all_goals
  have hF : shB k = false := by
   cases h : shB k with
   | false => rfl
   | true => rw [shB_iff] at h; omega
  rw [hF]
  clear hF
  go_enter Tryz.func228, Tryz.ntmps228
  go_wp2_with fail
  go_ret
  exact ⟨rfl, rfl⟩
theorem qmay_spec (C : List Int) (sh : Int) (ca : OA) (cc : Nat) (w : World) (hC : IntsAt w ca C) : Calls Tryz.prog 207 #[.slice ca C.length cc, .int .i64 sh] w fun e w' => e = .returned (.bool (mayB C sh)) /\ w' = w := by
 have h1 := hC.len
 clear hC
 by_cases g1 : ¬ 1 <= C.length
 rotate_left
 focus
  skip
  by_cases g2 : ¬ C.length <= 32
  rotate_left
  ·skip
   rw [mayB_sh C sh (by omega) (by omega)]
   have ks := qsh_spec sh w
   generalize shB sh = bb at *
   go_enter Tryz.func207, Tryz.ntmps207
   go_wp2_with fail
   refine ks.mono ?_
   rintro e w2 ⟨rfl, hw2⟩
   subst hw2
   clear ks
   go_wp2_with fail
   go_ret
   exact ⟨rfl, rfl⟩
 rotate_left
 all_goals
  have hF : mayB C sh = false := by
   cases h : mayB C sh with
   | false => rfl
   | true => rw [mayB_iff] at h; omega
  rw [hF]
  clear hF
  go_enter Tryz.func207, Tryz.ntmps207
  go_wp2_with fail
  go_ret
  exact ⟨rfl, rfl⟩
theorem qcoefs_spec (o : Nat) (ho : o <= 4) (w : World) : Calls Tryz.prog 206 #[.int .i64 (o : Int)] w fun e w' => ∃ ca cc, e = .returned (.slice ca (wF o).length cc) /\ IntsAt w' ca (wF o) /\ Lo w w' := by
 rcases (show o = 0 ∨ o = 1 ∨ o = 2 ∨ o = 3 ∨ o = 4 by omega) with rfl | rfl | rfl | rfl | rfl
 ·go_enter Tryz.func206, Tryz.ntmps206
  go_wp2_with fail
  go_ret
  exact ⟨none, 0, rfl, IntsAt.nil w, Below.refl _ _⟩
 focus
  have HI : Hid (IntsAt (w.alloc (.cells #[.int .i64 1] 3)) (some ⟨w.heap.size, 0, none⟩) (wF 1)) := ints_new w (wF 1) (by decide) (by decide)
  have HB : Hid (Lo w (w.alloc (.cells #[.int .i64 1] 3))) := aQ
 rotate_left
 focus
  have HI : Hid (IntsAt (w.alloc (.cells #[.int .i64 2, .int .i64 (-1)] 3)) (some ⟨w.heap.size, 0, none⟩) (wF 2)) := ints_new w (wF 2) (by decide) (by decide)
  have HB : Hid (Lo w (w.alloc (.cells #[.int .i64 2, .int .i64 (-1)] 3))) := aQ
 rotate_left
 focus
  have HI : Hid (IntsAt (w.alloc (.cells #[.int .i64 3, .int .i64 (-3), .int .i64 1] 3)) (some ⟨w.heap.size, 0, none⟩) (wF 3)) := ints_new w (wF 3) (by decide) (by decide)
  have HB : Hid (Lo w (w.alloc (.cells #[.int .i64 3, .int .i64 (-3), .int .i64 1] 3))) := aQ
 rotate_left
 focus
  have HI : Hid (IntsAt (w.alloc (.cells #[.int .i64 4, .int .i64 (-6), .int .i64 4, .int .i64 (-1)] 3)) (some ⟨w.heap.size, 0, none⟩) (wF 4)) := ints_new w (wF 4) (by decide) (by decide)
  have HB : Hid (Lo w (w.alloc (.cells #[.int .i64 4, .int .i64 (-6), .int .i64 4, .int .i64 (-1)] 3))) := aQ
 rotate_left
 all_goals
  go_enter Tryz.func206, Tryz.ntmps206
  go_wp2_with fail
  go_ret
  exact ⟨_, _, rfl, HI.out, HB.out⟩
structure Lin (b : Nat) (C : List Int) (ca : OA) (cc sh : Nat) (w : World) : Prop where
 cf : w.cell? ⟨b, 0, none⟩ = some (.slice ca C.length cc)
 sh : w.cell? ⟨b + 1, 0, none⟩ = some (.int .i64 (sh : Int))
 ints : IntsAt w ca C
theorem Lin.below {b : Nat} {C : List Int} {ca : OA} {cc sh : Nat} {w w' : World} (h : Lin b C ca cc sh w) (hb : Lo w w') : Lin b C ca cc sh w' :=
 ⟨by rw [World.cell?_of_block (w := w) (hb.block b (lt_cell h.cf))]; exact h.cf, by rw [World.cell?_of_block (w := w) (hb.block (b + 1) (lt_cell h.sh))]; exact h.sh, h.ints.below hb⟩
abbrev linV (b : Nat) : Value := .func (.func 227) #[] #[.pointer (some ⟨b, 0, none⟩), .pointer (some ⟨b + 1, 0, none⟩)]
theorem qlinear_spec (C : List Int) (ca : OA) (cc sh : Nat) (w : World) (hC : IntsAt w ca C) : Calls Tryz.prog 205 #[.slice ca C.length cc, .int .i64 (sh : Int)] w fun e w' => ∃ b, e = .returned (linV b) /\ Lin b C ca cc sh w' /\ Lo w w' := by
 have HB : Hid (Lo w ((w.alloc (.cells #[.slice ca C.length cc] 56)).alloc (.cells #[.int .i64 (sh : Int)] 3))) := aQ.alloc (by simp) _
 have HL : Hid (Lin w.heap.size C ca cc sh ((w.alloc (.cells #[.slice ca C.length cc] 56)).alloc (.cells #[.int .i64 (sh : Int)] 3))) := by
  refine ⟨?_, ?_, hC.below HB.out⟩
  ·rw [cell_row (heap_two _ _ _)]; rfl
  ·have hh := heap_alloc_new (w.alloc (.cells #[.slice ca C.length cc] 56)) (.cells #[.int .i64 (sh : Int)] 3)
   rw [show (w.alloc (.cells #[.slice ca C.length cc] 56)).heap.size = w.heap.size + 1 from by simp] at hh
   rw [cell_row hh]; rfl
 clear hC
 go_enter Tryz.func205, Tryz.ntmps205
 go_wp2_with fail
 go_ret
 exact ⟨_, rfl, HL.out, HB.out⟩
theorem qclos_spec (C past : List Int) (ca pa : OA) (cc pc : Nat) (sh b : Nat) (hsh : sh <= 31) (hCp : C.length <= past.length) (w : World) (hL : Lin b C ca cc sh w) (hp : IntsAt w pa past) :
  Calls Tryz.prog 227 (#[.slice pa past.length pc] ++ #[.pointer (some ⟨b, 0, none⟩), .pointer (some ⟨b + 1, 0, none⟩)]) w fun e w' => e = .returned (.int .i64 (foreN C sh past past.length)) /\ w' = w := by
 have h1 := hp.len
 have h2 := hL.ints.len
 have c1 := hL.cf
 have c2 := hL.sh
 have HC := kQ hL.ints
 have HP := kQ hp
 have HF : Hid (foreN C sh past past.length = foreS C past past.length C.length / 2 ^ sh) := rfl
 clear hL hp
 go_enter Tryz.func227, Tryz.ntmps227
 go_wp2_with fail
 go_loopw [5, 6, 7, 10] (fun s s6 s7 t wr => ∃ k : Nat, k <= C.length /\ t = .int .i64 (k : Int) /\ s = .int .i64 (foreS C past past.length k) /\ wr = w) (fun _ _ _ t _ => C.length - (intOf t).toNat)
 case atStart => exact ⟨0, Nat.zero_le _, rfl, rfl, rfl⟩
 case round =>
  obtain ⟨k, hk, rfl, rfl, rfl⟩ := hrel
  have hfr := foreS_rng C past past.length k
  by_cases hlt : k < C.length
  ·obtain ⟨b1, o1, rfl, q1⟩ := HC.out.at k hlt
   obtain ⟨b2, o2, rfl, q2⟩ := HP.out.at (past.length - 1 - k) (by omega)
   have r1 := q1 wr (Below.refl _ _)
   have r2 := q2 wr (Below.refl _ _)
   have HN : Hid (foreS C past past.length (k + 1) = wrap64 (foreS C past past.length k + wrap64 (C.getD k 0 * past.getD (past.length - 1 - k) 0))) := rfl
   have hix : (past.length : Int) - 1 - (k : Int) = ((past.length - 1 - k : Nat) : Int) := by omega
   have hil : past.length - 1 - k < past.length := by omega
   clear q1 q2
   generalize C.getD k 0 = x at *
   generalize past.getD (past.length - 1 - k) 0 = y at *
   generalize past.length - 1 - k = ix at *
   generalize foreS C past past.length k = su at *
   go_wp2_with fail
   go_roundw
   case rel => exact ⟨k + 1, by omega, by go_num, by rw [HN.out], trivial⟩
   case measure => simp [intOf]; omega
  ·have hke : k = C.length := by omega
   subst hke
   generalize foreS C past past.length C.length = su at *
   have hs2 : (sh : Int) <= 31 := by omega
   go_wp2_with fail
   go_ret
   exact ⟨by rw [HF.out]; rfl, rfl⟩
structure Made (w : World) (ao : OA) (cap : Nat) (L : List Int) (wx : World) : Prop where
 at_ : ∃ g, ao = some ⟨g, 0, none⟩ /\ w.heap.size <= g /\ ∃ cs : Array Value, wx.heap[g]? = some (.cells cs 3 (0, 0)) /\ ∀ j, j < L.length -> cs[j]? = some (.int .i64 (L.getD j 0))
 cap_ : L.length <= cap
 len : L.length <= 17592186044415
 num : Rng L
 below : Lo w wx
section
variable {w wx w' w0 : World} {ao : OA} {cap : Nat} {L : List Int}
theorem Made.ints (h : Made w ao cap L wx) : IntsAt wx ao L := by
 obtain ⟨g, rfl, _, cs, h1, h2⟩ := h.at_
 exact ⟨h.len, h.num, fun _ => ⟨g, 0, rfl, fun j hj => by rw [cell_row h1, Nat.zero_add]; exact h2 j hj⟩⟩
theorem Made.up (h : Made w ao cap L wx) (hb : Lo w0 w) : Made w0 ao cap L wx := by
 obtain ⟨g, h0, h1, h2⟩ := h.at_
 exact ⟨⟨g, h0, Nat.le_trans hb.size h1, h2⟩, h.cap_, h.len, h.num, hb.trans (h.below.mono hb.size)⟩
theorem Made.none_ (h : Made w ao cap L wx) : ao = none -> cap = 0 := fun e => by
 obtain ⟨g, h0, _⟩ := h.at_
 rw [e] at h0; cases h0
theorem Made.of_fill {g : Nat} (h : Fill w g L L.length wx) (hc : L.length <= cap) (hl : L.length <= 17592186044415) (hn : Rng L) : Made w (some ⟨g, 0, none⟩) cap L wx := by
 obtain ⟨cs, h1, h2⟩ := h.row
 exact ⟨⟨g, rfl, h.le, cs, h1, fun j hj => by rw [h2 j hj, if_pos hj]⟩, hc, hl, hn, h.below⟩
theorem Made.of_out {g : Nat} (h : Out w (.slice (some ⟨g, 0, none⟩) L.length cap) L wx) (hl : L.length <= 17592186044415) (hn : Rng L) : Made w (some ⟨g, 0, none⟩) cap L wx := by
 obtain ⟨_, h1 | ⟨g', cap', cur, h1, h2, h3, h4, h5, h6, h7⟩⟩ := h.own
 ·cases h1.1
 ·cases h1
  refine ⟨⟨g, rfl, h2, cur, h3, fun j hj => ?_⟩, h4, hl, hn, h.below⟩
  have e : (cur.toList.take (L.length * 1))[j]? = (intsC L)[j]? := by rw [h7]
  rw [List.getElem?_take, if_pos (by omega), Array.getElem?_toList] at e
  rw [e]
  unfold intsC
  rw [List.getElem?_map, List.getElem?_eq_getElem hj, List.getD_eq_getElem?_getD, List.getElem?_eq_getElem hj]
  rfl
end
def RetM (R : Option (List Int)) (w : World) (e : Ending) (w' : World) : Prop := match R with
 | none => e = .returned (.tuple #[.slice none 0 0, .int .i64 1]) /\ Lo w w'
 | some L => ∃ la lc, e = .returned (.tuple #[.slice la L.length lc, .int .i64 0]) /\ Made w la lc L w'
theorem retM_none {R : Option (List Int)} (h : R = none) {w w' : World} {e : Ending} (he : e = .returned (.tuple #[.slice none 0 0, .int .i64 1])) (hb : Lo w w') : RetM R w e w' := by
 subst h; exact ⟨he, hb⟩
theorem retM_some {R : Option (List Int)} {L : List Int} (h : R = some L) {w w' : World} {e : Ending} {la : OA} {lc : Nat} (he : e = .returned (.tuple #[.slice la L.length lc, .int .i64 0])) (hi : Made w la lc L w') : RetM R w e w' := by
 subst h; exact ⟨la, lc, he, hi⟩
end Go.Proofs.YtfpfabmbipmipaaGreatDoor

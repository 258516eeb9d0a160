/- Texts in one: Cln, HfA, ShaB, ShaA. -/
import Derived.Test.YtchonoonclllbaaGreatDoorPh10
import Derived.WalkKit
import Derived.Lib.Strings
import Derived.Lib.Walk
import Derived.Lib.BufferWrite
import Derived.Lib.UnsafeStr
import Derived.Lib.Hide
import Derived.Laws.MakeOwn
import Derived.Laws.CopyOwn
import Derived.Laws.OwnMore
import Derived.BigQuiet
set_option maxHeartbeats 16000000
set_option linter.unusedVariables false
set_option linter.unusedSimpArgs false
namespace Go.Proofs.YtchonoonclllbaaGreatDoor.Cln
open Go.RowKit Mem Laws Bytes Sha
set_option maxRecDepth 100000 in
theorem clone_lite (w : World) (s : ByteArray) (hlim : s.size ≤ 1000000000000) :
  Calls Tryz.prog 155 #[.string s] w fun e w' => e = .returned (.string s) ∧ Below w.heap.size w w' := by
 by_cases h0 : s.size = 0
 ·have hs : s = ⟨#[]⟩ := by
   apply ByteArray.ext
   exact Array.eq_empty_of_size_eq_zero h0
  subst hs
  go_enter Tryz.func155, Tryz.ntmps155
  go_wp2
  go_ret
  exact ⟨rfl, Below.refl _ _⟩
 ·obtain ⟨i0, hi, hz0, hz1, hz2⟩ := info_parts info5
  have hinfo : (Tryz.prog.info? 5).map (·.size) = some 1 := by rw [hi]; simp [hz1]
  have hco : Tryz.prog.cellsOf 5 = 1 := by simp [Program.cellsOf, hi, hz1]
  obtain ⟨M, hM⟩ : ∃ M, M = madeCells (Value.int .u8 0).cells (((s.size : Nat) : Int).toNat * i0.size) := ⟨_, rfl⟩
  have hMs : M.size = s.size := by rw [hM, size_madeCells, hz1]; simp
  have hmk : ∀ W : World, (Instr.makeSlice 22 (.int .i64 (s.size : Int)) (.int .i64 (s.size : Int))).run Tryz.prog W = .ok (.slice (some ⟨W.heap.size, 0, none⟩) s.size s.size) (W.alloc (.cells M 5)) := fun W => by
   have h := run_make (P := Tryz.prog) W 22 5 i0 (.int .u8 0) Tryz.underlying22 hi hz0 .i64 .i64 (s.size : Int) (s.size : Int) (by omega) (by omega) (by rw [hz2]; omega) (by omega)
   rw [← hM] at h
   simpa using h
  clear hM
  have hcp := Lib.run_copy_row_string (P := Tryz.prog) (w.alloc (.cells M 5)) 22 9 3 5 w.heap.size 0 s.size s.size s M 5 Tryz.underlying22 hinfo (heap_alloc_new w _) (Nat.le_refl _) (by omega)
  obtain ⟨Y, hY⟩ : ∃ Y, Y = (M.toList.take 0 ++ Lib.byteCells s.data.toList ++ M.toList.drop (0 + s.size)).toArray := ⟨_, rfl⟩
  rw [← hY] at hcp
  have hYl : Y.toList = Lib.byteCells s.data.toList := by
   rw [hY, List.toList_toArray, List.take_zero, List.nil_append, List.drop_of_length_le (by rw [Array.length_toList]; omega), List.append_nil]
  have hYs : Y.size = s.size := by rw [← Array.length_toList, hYl, Lib.byteCells_length, ← Lib.size_eq]
  have hgY : ((w.alloc (.cells M 5)).setRow w.heap.size Y).heap[w.heap.size]? = some (.cells Y 5 (0, 0)) := setRow_heap _ _ M _ 5 (0, 0) (heap_alloc_new w _)
  have hne : s.data.toList ≠ [] := fun e => h0 (by rw [Lib.size_eq, e]; rfl)
  have hUS := Lib.run_unsafeString_row (P := Tryz.prog) ((w.alloc (.cells M 5)).setRow w.heap.size Y) 214 3 9 5 Tryz.underlying214 hco w.heap.size Y.size (by unfold World.shape?; rw [hgY]) s.data.toList hne (by rw [← Lib.size_eq]; omega) (by rw [← Lib.size_eq]; omega)
   (fun j x hx => Lib.cells_of_row hgY Y.size j _ (by rw [List.take_of_length_le (by rw [Array.length_toList]; exact Nat.le_refl _), hYl]; simp [Lib.byteCells, hx]))
  rw [← Lib.size_eq] at hUS
  clear hY
  go_enter Tryz.func155, Tryz.ntmps155
  go_wp2
  go_ret
  have hb1 : Below w.heap.size w (w.alloc (.cells M 5)) := (Below.refl _ w).alloc (Nat.le_refl _) _
  have hb2 : Below w.heap.size (w.alloc (.cells M 5)) ((w.alloc (.cells M 5)).setRow w.heap.size Y) := ⟨rfl, rfl, rfl, by simp, fun k hk => setRow_other _ _ _ _ (by omega)⟩
  exact ⟨rfl, Lib.below_freeze (hb1.trans hb2) (p := ⟨w.heap.size, 0, none⟩) (Nat.le_refl _) _⟩
set_option maxRecDepth 100000 in
theorem clone_impl (w : World) (s : ByteArray) (hlim : s.size ≤ 1000000000000) :
  Calls Tryz.prog 113 #[.string s] w fun e w' => e = .returned (.string s) ∧ Below w.heap.size w w' := by
 have q := clone_lite w s hlim
 go_enter Tryz.func113, Tryz.ntmps113
 go_wp2_with (go_at_call 155; refine q.mono ?_; rintro e w' ⟨rfl, b1⟩)
 go_ret
 exact ⟨rfl, b1⟩
end Go.Proofs.YtchonoonclllbaaGreatDoor.Cln
namespace Go.Proofs.YtchonoonclllbaaGreatDoor.He
open Go.RowKit Mem Laws Bytes Sha Tr
set_option maxRecDepth 1000000 in
theorem ok_impl (w : World) (h : Hd) (hz : h.r.size ≤ 1000000000000) : Calls Tryz.prog 53 #[.agg #[.int .i64 h.n, .string h.r]] w fun e w' => e = .returned (.bool (okH h)) ∧ Below w.heap.size w w' := by
 have HB : Hid (Below w.heap.size w (w.alloc (.cells #[.int .i64 h.n, .string h.r] 26))) := (Below.refl _ _).alloc (Nat.le_refl _) _
 by_cases h0 : 0 ≤ h.n
 ·by_cases h2 : h.n ≤ 200
  ·obtain ⟨t, ht⟩ : ∃ t, ((h.r.size : Int) == 32) = t := ⟨_, rfl⟩
   have HN : Hid (okH h = t) := by
    show _ = _
    rw [← ht]
    unfold okH
    by_cases h32 : h.r.size = 32
    ·rw [decide_eq_true ⟨⟨h0, h2⟩, h32⟩, h32]; rfl
    ·rw [decide_eq_false (fun c => h32 c.2)]
     exact (beq_eq_false_iff_ne.2 (by omega)).symm
   go_enter Tryz.func53, Tryz.ntmps53
   go_wp2
   go_ret
   exact ⟨by rw [HN.out]; rfl, HB.out⟩
  ·have HN : Hid (okH h = false) := by show _ = _; unfold okH; rw [decide_eq_false (fun c => h2 c.1.2)]
   go_enter Tryz.func53, Tryz.ntmps53
   go_wp2
   go_ret
   exact ⟨by rw [HN.out]; rfl, HB.out⟩
 ·have HN : Hid (okH h = false) := by show _ = _; unfold okH; rw [decide_eq_false (fun c => h0 c.1.1)]
  go_enter Tryz.func53, Tryz.ntmps53
  go_wp2
  go_ret
  exact ⟨by rw [HN.out]; rfl, HB.out⟩
def pk (a b : Hd) : Int := if eqH a b = true then 1 else if a.n = b.n then 2 else 0
set_option maxRecDepth 1000000 in
theorem pair_impl (w : World) (a b : Hd) : Calls Tryz.prog 140 #[.agg #[.int .i64 a.n, .string a.r], .agg #[.int .i64 b.n, .string b.r]] w fun e w' => e = .returned (.int .i64 (pk a b)) ∧ Below w.heap.size w w' := by
 have HB : Hid (Below w.heap.size w ((w.alloc (.cells #[.int .i64 a.n, .string a.r] 26)).alloc (.cells #[.int .i64 b.n, .string b.r] 26))) := ((Below.refl _ _).alloc (Nat.le_refl _) _).alloc (by simp) _
 have eq1 : ∀ W : World, _ := fun W => eqlH W a b
 have gr1 : ∀ (W : World) (x y : Operand) (xs ys : Array Value), _ := fun W x y xs ys => grdH W .eql x y xs ys
 by_cases he : eqH a b = true
 ·have HN : Hid (pk a b = 1) := by show _ = _; unfold pk; rw [if_pos he]
  simp only [he] at eq1
  clear he
  go_enter Tryz.func140, Tryz.ntmps140
  go_wp2
  go_ret
  exact ⟨by rw [HN.out]; rfl, HB.out⟩
 ·have hf : eqH a b = false := by simpa using he
  simp only [hf] at eq1
  by_cases hn : a.n = b.n
  ·have HN : Hid (pk a b = 2) := by show _ = _; unfold pk; rw [if_neg he, if_pos hn]
   have dn : (a.n == b.n) = true := by rw [beq_iff_eq]; exact hn
   clear he hf hn
   go_enter Tryz.func140, Tryz.ntmps140
   go_wp2
   go_ret
   exact ⟨by rw [HN.out]; rfl, HB.out⟩
  ·have HN : Hid (pk a b = 0) := by show _ = _; unfold pk; rw [if_neg he, if_neg hn]
   have dn : (a.n == b.n) = false := by rw [beq_eq_false_iff_ne]; exact hn
   clear he hf hn
   go_enter Tryz.func140, Tryz.ntmps140
   go_wp2
   go_ret
   exact ⟨by rw [HN.out]; rfl, HB.out⟩
set_option maxRecDepth 1000000 in
theorem own_impl (w : World) (h : Hd) (hz : h.r.size ≤ 1000000000000) : Calls Tryz.prog 63 #[.agg #[.int .i64 h.n, .string h.r]] w fun e w' => e = .returned (.agg #[.int .i64 h.n, .string h.r]) ∧ Below w.heap.size w w' := by
 obtain ⟨W, hW, R0, R1, bW⟩ : ∃ W, Hid ((w.alloc (.cells #[.int .i64 h.n, .string h.r] 26)).alloc (.cells #[.int .i64 0, .string ⟨#[]⟩] 26) = W) ∧ Hid (W.heap[w.heap.size]? = some (.cells (hc h) 26 (0, 0))) ∧ Hid (W.heap[w.heap.size + 1]? = some (.cells (hc hd0) 26 (0, 0))) ∧ Below w.heap.size w W := ⟨_, rfl, heap_alloc2_old w _ _, heap_alloc2_new w _ _, ((Below.refl _ _).alloc (Nat.le_refl _) _).alloc (by simp) _⟩
 have p0 : W.cell? ⟨w.heap.size, 0, none⟩ = some (.int .i64 h.n) := row_at R0.out 0
 have p1 : W.cell? ⟨w.heap.size, 1, none⟩ = some (.string h.r) := row_at R0.out 1
 go_enter Tryz.func63, Tryz.ntmps63
 go_wp2_with fail
 rw [hW.out]
 refine wp_region_held_drew (S := fun w' => w'.cell? ⟨w.heap.size, 0, none⟩ = some (.int .i64 h.n) ∧ w'.cell? ⟨w.heap.size, 1, none⟩ = some (.string h.r)) (by kernel_rfl) ⟨p0, p1⟩ (fun hHeld => ?_)
 refine Ke.q 0 ?_; try simp only [Act.put, pq]
 refine Ke.q 1 ?_; try simp only [Act.put, pq]
 refine Ke.q 2 ?_; try simp only [Act.put, pq]
 refine Ke.q 3 ?_; try simp only [Act.put, pq]
 refine wpAnyH_ready (rs := [4]) (by kernel_rfl) (by simp) ?_
 refine AllReadyH.cons rfl (fun K hK => ?_) AllReadyH.nil
 go_simp
 refine (Cln.clone_impl _ h.r hz).mono ?_
 rintro e w4 ⟨rfl, b4⟩
 have B4 : Below w.heap.size w w4 := (Below.drew bW).trans (b4.mono bW.size)
 have R4 : w4.heap[w.heap.size + 1]? = some (.cells (hc hd0) 26 (0, 0)) := rowKeep R1.out ((Below.drew (Below.refl _ _)).trans b4)
 refine hK.out _ _ ⟨keepH hHeld.1 b4, keepH hHeld.2 b4⟩ (fun hHeld => ?_)
 clear hK K
 try simp only [Act.put, pq]
 refine Ke.q 5 ?_; try simp only [Act.put, pq]
 refine wpAnyH_ready (rs := [6]) (by kernel_rfl) (by simp) ?_
 refine AllReadyH.cons rfl (fun K hK => ?_) AllReadyH.nil
 rw [if_pos (by rfl)]
 refine wp_store_row 26 _ _ rfl (w.heap.size + 1) (hc h) rfl rfl 26 _ R4 (sizeH h) rfl (oneH h) ?_
 refine hK.out _ _ ⟨cell_row (by show w.heap.size ≠ _; omega) hHeld.1, cell_row (by show w.heap.size ≠ _; omega) hHeld.2⟩ (fun hHeld => ?_)
 clear hK K
 try simp only [Act.put, pq]
 refine wpAnyH_done (by kernel_rfl) ?_ _
 clear hHeld
 go_wp2
 exact bodyPost_ret (v := .agg (hc h)) (results_cell_row rfl _ _ (w.heap.size + 1) 26 _ (0, 0) _ rfl (setRow_heap _ _ _ _ _ (0, 0) R4) Tryz.underlying26 rfl (sizeH h)) rfl ⟨rfl, below_setRow B4 (by omega) _⟩
end Go.Proofs.YtchonoonclllbaaGreatDoor.He
namespace Go.Proofs.YtchonoonclllbaaGreatDoor.Sha
open Go.RowKit Mem Laws Bytes
theorem wraps32 (n : Int) (h0 : 0 ≤ n) (h1 : n < 2 ^ 32) : IntKind.u32.wrap n = n := by rw [IntKind.wrap_u32]; omega
theorem or32 {a b : Nat} (ha : a < 4294967296) (hb : b < 4294967296) : bits .or .u32 (a : Int) (b : Int) = ((a ||| b : Nat) : Int) := (bits_nat .u32 32 (by decide) wraps32 a b ha hb).2
theorem and32 {a b : Nat} (ha : a < 4294967296) (hb : b < 4294967296) : bits .and .u32 (a : Int) (b : Int) = ((a &&& b : Nat) : Int) := (bits_nat .u32 32 (by decide) wraps32 a b ha hb).1
theorem xor32 {a b : Nat} (ha : a < 4294967296) (hb : b < 4294967296) : bits .xor .u32 (a : Int) (b : Int) = ((a ^^^ b : Nat) : Int) := by
 have ha' : a % 2 ^ 32 = a := Nat.mod_eq_of_lt (by omega)
 have hb' : b % 2 ^ 32 = b := Nat.mod_eq_of_lt (by omega)
 have e : bits .xor .u32 (a : Int) (b : Int) = IntKind.u32.wrap (((BitVec.ofInt 32 (a : Int) ^^^ BitVec.ofInt 32 (b : Int)).toNat : Nat) : Int) := rfl
 rw [e, BitVec.ofInt_natCast, BitVec.ofInt_natCast, BitVec.toNat_xor, BitVec.toNat_ofNat, BitVec.toNat_ofNat, ha', hb']
 exact wraps32 _ (Int.natCast_nonneg _) (by have := Nat.xor_lt_two_pow (n := 32) ha hb; omega)
theorem turn_split (x n : Nat) (hx : x < 4294967296) : turn x n = (x * 2 ^ (32 - n) % 4294967296 ||| x / 2 ^ n) := by
 unfold turn
 have hd : x / 2 ^ n < 2 ^ 32 := Nat.lt_of_le_of_lt (Nat.div_le_self _ _) hx
 rw [show (4294967296 : Nat) = 2 ^ 32 by decide, Nat.or_mod_two_pow, Nat.mod_eq_of_lt hd, Nat.or_comm]
set_option maxRecDepth 1000000 in
theorem rot_impl (w : World) (x n : Nat) (k : Int) (hk : bits .and .u64 (IntKind.u64.wrap k) 31 = ((32 - n : Nat) : Int)) (hx : x < 4294967296) (hn1 : 1 ≤ n) (hn2 : n ≤ 31) :
  Calls Tryz.prog 202 #[.int .u32 (x : Int), .int .i64 k] w fun e w' => e = .returned (.int .u32 (turn x n : Nat)) ∧ w = w' := by
 go_enter Tryz.func202, Tryz.ntmps202
 go_wp2
 go_ret
 refine ⟨congrArg (fun z => Ending.returned (.int .u32 z)) ?_, rfl⟩
 have e1 : (x : Int) * 2 ^ (32 - n) % 4294967296 = ((x * 2 ^ (32 - n) % 4294967296 : Nat) : Int) := by rw [Int.natCast_emod, Int.natCast_mul, Int.natCast_pow]; rfl
 have e2 : (x : Int) / 2 ^ (32 - (32 - n)) = ((x / 2 ^ n : Nat) : Int) := by rw [show 32 - (32 - n) = n by omega, Int.natCast_ediv, Int.natCast_pow]; rfl
 have hd : x / 2 ^ n < 4294967296 := Nat.lt_of_le_of_lt (Nat.div_le_self _ _) hx
 show bits .or .u32 ((x : Int) * 2 ^ (32 - n) % 4294967296) ((x : Int) / 2 ^ (32 - (32 - n))) = _
 rw [e1, e2, or32 (Nat.mod_lt _ (by decide)) hd, turn_split x n hx]
set_option maxRecDepth 1000000 in
theorem turn_impl (w : World) (x n : Nat) (k : Int) (hkn : k = (n : Int)) (hk : bits .and .u64 (IntKind.u64.wrap (-k)) 31 = ((32 - n : Nat) : Int)) (hx : x < 4294967296) (hn1 : 1 ≤ n) (hn2 : n ≤ 31) :
  Calls Tryz.prog 197 #[.int .u32 (x : Int), .int .i64 k] w fun e w' => e = .returned (.int .u32 (turn x n : Nat)) ∧ w = w' := by
 have hk0 : 0 ≤ k := by omega
 have hk1 : k ≤ 31 := by omega
 have hr := rot_impl w x n (-k) hk hx hn1 hn2
 have hw : IntKind.i64.wrap (-k) = -k := by rw [IntKind.wrap_i64]; omega
 clear hk hkn
 go_enter Tryz.func197, Tryz.ntmps197
 go_wp2_with fail
 refine hr.mono ?_
 rintro e w' ⟨rfl, rfl⟩
 go_wp2
 go_ret
 exact ⟨rfl, rfl⟩
set_option maxRecDepth 1000000 in
theorem s0_impl (w : World) (x : Nat) (hx : x < 4294967296) : Calls Tryz.prog 195 #[.int .u32 (x : Int)] w fun e w' => e = .returned (.int .u32 (s0w x : Nat)) ∧ w = w' := by
 have q1 := turn_impl w x 7 7 rfl (by decide) hx (by omega) (by omega)
 have q2 := turn_impl w x 18 18 rfl (by decide) hx (by omega) (by omega)
 have HB : Hid (bits .xor .u32 (bits .xor .u32 ((turn x 7 : Nat) : Int) ((turn x 18 : Nat) : Int)) ((x : Int) / 8) = ((s0w x : Nat) : Int)) := by
  show _ = _
  have e : (x : Int) / 8 = ((x / 8 : Nat) : Int) := by omega
  rw [e, xor32 (turn_lt _ _) (turn_lt _ _), xor32 (xl (turn_lt _ _) (turn_lt _ _)) (by omega)]; rfl
 go_enter Tryz.func195, Tryz.ntmps195
 go_wp2_with fail
 refine q1.mono ?_
 rintro e w' ⟨rfl, rfl⟩
 go_wp2_with fail
 refine q2.mono ?_
 rintro e w' ⟨rfl, rfl⟩
 go_wp2
 go_ret
 exact ⟨congrArg (fun z => Ending.returned (.int .u32 z)) HB.out, rfl⟩
set_option maxRecDepth 1000000 in
theorem s1_impl (w : World) (x : Nat) (hx : x < 4294967296) : Calls Tryz.prog 196 #[.int .u32 (x : Int)] w fun e w' => e = .returned (.int .u32 (s1w x : Nat)) ∧ w = w' := by
 have q1 := turn_impl w x 17 17 rfl (by decide) hx (by omega) (by omega)
 have q2 := turn_impl w x 19 19 rfl (by decide) hx (by omega) (by omega)
 have HB : Hid (bits .xor .u32 (bits .xor .u32 ((turn x 17 : Nat) : Int) ((turn x 19 : Nat) : Int)) ((x : Int) / 1024) = ((s1w x : Nat) : Int)) := by
  show _ = _
  have e : (x : Int) / 1024 = ((x / 1024 : Nat) : Int) := by omega
  rw [e, xor32 (turn_lt _ _) (turn_lt _ _), xor32 (xl (turn_lt _ _) (turn_lt _ _)) (by omega)]; rfl
 go_enter Tryz.func196, Tryz.ntmps196
 go_wp2_with fail
 refine q1.mono ?_
 rintro e w' ⟨rfl, rfl⟩
 go_wp2_with fail
 refine q2.mono ?_
 rintro e w' ⟨rfl, rfl⟩
 go_wp2
 go_ret
 exact ⟨congrArg (fun z => Ending.returned (.int .u32 z)) HB.out, rfl⟩
set_option maxRecDepth 1000000 in
theorem b0_impl (w : World) (x : Nat) (hx : x < 4294967296) : Calls Tryz.prog 183 #[.int .u32 (x : Int)] w fun e w' => e = .returned (.int .u32 (big0 x : Nat)) ∧ w = w' := by
 have q1 := turn_impl w x 2 2 rfl (by decide) hx (by omega) (by omega)
 have q2 := turn_impl w x 13 13 rfl (by decide) hx (by omega) (by omega)
 have q3 := turn_impl w x 22 22 rfl (by decide) hx (by omega) (by omega)
 have HB : Hid (bits .xor .u32 (bits .xor .u32 ((turn x 2 : Nat) : Int) ((turn x 13 : Nat) : Int)) ((turn x 22 : Nat) : Int) = ((big0 x : Nat) : Int)) := by
  show _ = _
  rw [xor32 (turn_lt _ _) (turn_lt _ _), xor32 (xl (turn_lt _ _) (turn_lt _ _)) (turn_lt _ _)]; rfl
 go_enter Tryz.func183, Tryz.ntmps183
 go_wp2_with fail
 refine q1.mono ?_
 rintro e w' ⟨rfl, rfl⟩
 go_wp2_with fail
 refine q2.mono ?_
 rintro e w' ⟨rfl, rfl⟩
 go_wp2_with fail
 refine q3.mono ?_
 rintro e w' ⟨rfl, rfl⟩
 go_wp2
 go_ret
 exact ⟨congrArg (fun z => Ending.returned (.int .u32 z)) HB.out, rfl⟩
set_option maxRecDepth 1000000 in
theorem b1_impl (w : World) (x : Nat) (hx : x < 4294967296) : Calls Tryz.prog 181 #[.int .u32 (x : Int)] w fun e w' => e = .returned (.int .u32 (big1 x : Nat)) ∧ w = w' := by
 have q1 := turn_impl w x 6 6 rfl (by decide) hx (by omega) (by omega)
 have q2 := turn_impl w x 11 11 rfl (by decide) hx (by omega) (by omega)
 have q3 := turn_impl w x 25 25 rfl (by decide) hx (by omega) (by omega)
 have HB : Hid (bits .xor .u32 (bits .xor .u32 ((turn x 6 : Nat) : Int) ((turn x 11 : Nat) : Int)) ((turn x 25 : Nat) : Int) = ((big1 x : Nat) : Int)) := by
  show _ = _
  rw [xor32 (turn_lt _ _) (turn_lt _ _), xor32 (xl (turn_lt _ _) (turn_lt _ _)) (turn_lt _ _)]; rfl
 go_enter Tryz.func181, Tryz.ntmps181
 go_wp2_with fail
 refine q1.mono ?_
 rintro e w' ⟨rfl, rfl⟩
 go_wp2_with fail
 refine q2.mono ?_
 rintro e w' ⟨rfl, rfl⟩
 go_wp2_with fail
 refine q3.mono ?_
 rintro e w' ⟨rfl, rfl⟩
 go_wp2
 go_ret
 exact ⟨congrArg (fun z => Ending.returned (.int .u32 z)) HB.out, rfl⟩
set_option maxRecDepth 1000000 in
theorem ch_impl (w : World) (e f g : Nat) (he : e < 4294967296) (hf : f < 4294967296) (hg : g < 4294967296) : Calls Tryz.prog 182 #[.int .u32 (e : Int), .int .u32 (f : Int), .int .u32 (g : Int)] w fun e' w' => e' = .returned (.int .u32 (ch e f g : Nat)) ∧ w = w' := by
 have HB : Hid (bits .xor .u32 (bits .and .u32 (e : Int) (f : Int)) (bits .and .u32 (bits .xor .u32 4294967295 (e : Int)) (g : Int)) = ((ch e f g : Nat) : Int)) := by
  show _ = _
  have e0 : (4294967295 : Int) = ((4294967295 : Nat) : Int) := rfl
  rw [e0, xor32 (by omega) he, and32 he hf, and32 (xl (by omega) he) hg, xor32 (al hf) (al hg)]; rfl
 go_enter Tryz.func182, Tryz.ntmps182
 go_wp2
 go_ret
 exact ⟨congrArg (fun z => Ending.returned (.int .u32 z)) HB.out, rfl⟩
set_option maxRecDepth 1000000 in
theorem maj_impl (w : World) (a b c : Nat) (ha : a < 4294967296) (hb : b < 4294967296) (hc : c < 4294967296) : Calls Tryz.prog 184 #[.int .u32 (a : Int), .int .u32 (b : Int), .int .u32 (c : Int)] w fun e' w' => e' = .returned (.int .u32 (maj a b c : Nat)) ∧ w = w' := by
 have HB : Hid (bits .xor .u32 (bits .xor .u32 (bits .and .u32 (a : Int) (b : Int)) (bits .and .u32 (a : Int) (c : Int))) (bits .and .u32 (b : Int) (c : Int)) = ((maj a b c : Nat) : Int)) := by
  show _ = _
  rw [and32 ha hb, and32 ha hc, and32 hb hc, xor32 (al hb) (al hc), xor32 (xl (al hb) (al hc)) (al hc)]; rfl
 go_enter Tryz.func184, Tryz.ntmps184
 go_wp2
 go_ret
 exact ⟨congrArg (fun z => Ending.returned (.int .u32 z)) HB.out, rfl⟩
theorem set_mid {α : Type} (A : List α) (k : Nat) (z c : α) (B : List α) (p : Nat) (hp : p = A.length + k) : (A ++ List.replicate (k + 1) z ++ B).set p c = A ++ List.replicate k z ++ (c :: B) := by
 subst hp
 rw [List.append_assoc, List.set_append_right _ _ (by omega), Nat.add_sub_cancel_left, List.replicate_succ', List.append_assoc, List.set_append_right _ _ (by simp)]
 simp
theorem drop_be8 (n t : Nat) (ht : t < 8) : (be8 n).drop (8 - (t + 1)) = ((n : Int) / 2 ^ (8 * t) % 256) :: (be8 n).drop (8 - t) := by
 have h := be8_get n (8 - (t + 1)) (by omega)
 obtain ⟨h1, h2⟩ := List.getElem?_eq_some_iff.1 h
 rw [List.drop_eq_getElem_cons h1, h2, show 56 - 8 * (8 - (t + 1)) = 8 * t by omega, show 8 - (t + 1) + 1 = 8 - t by omega]
set_option maxRecDepth 1000000 in
theorem padded_impl (w : World) (v : Value) (xs : List Int) (h : Sl w v (bs xs)) (hx : xs.length ≤ 1000000000000) :
  Calls Tryz.prog 150 #[v] w fun e w' => ∃ v', e = .returned v' ∧ Own w' w.heap.size w'.heap.size 5 v' (bs (padded xs)) ∧ Below w.heap.size w w' := by
 obtain ⟨i0, hi, hz0, hz1, hz2⟩ := info_parts info5
 have hlater : ∀ w', Below w.heap.size w w' → Sl w' v (bs xs) := fun w' hb => h.later hb
 obtain ⟨ao, cap, rfl, hc, _, hr⟩ := h
 rw [bs_len] at hr hc hlater
 rw [bs_len]
 obtain ⟨Z, hZ⟩ : ∃ Z : Nat, (64 - ((xs.length : Int) + 9) % 64) % 64 = (Z : Int) := ⟨((64 - ((xs.length : Int) + 9) % 64) % 64).toNat, by omega⟩
 have hZb : Z < 64 := by omega
 have HZ : Hid (Z = zc xs.length) := by show _ = _; unfold zc; omega
 obtain ⟨N, hN⟩ : ∃ N : Nat, (xs.length : Int) + 9 + (Z : Int) = (N : Int) := ⟨xs.length + 9 + Z, by omega⟩
 have HN : Hid (N = xs.length + 9 + Z) := by show _ = _; omega
 have hNb : N ≤ xs.length + 73 := by omega
 have hNb2 : xs.length + 9 ≤ N := by omega
 go_enter Tryz.func150, Tryz.ntmps150
 go_wp2_with (first | (at_make; refine wpList_make_full _ rfl _ _ 22 rfl w.heap.size 5 i0 (.int .u8 0) 1 Tryz.underlying22 hi hz0 hz1 _ _ _ _ N rfl rfl rfl rfl (by rw [hz2]; omega) (by unfold maxLen; omega) (Nat.le_refl _) ?_))
 intro w1 hown hgrow
 rw [toList_madeCells_one] at hown
 have hbel : Below w.heap.size w w1 := (Below.refl _ _).grown hgrow (Nat.le_refl _) (by simp)
 have hblk := full_block hown
 obtain ⟨L, hL⟩ : ∃ L, L = List.replicate N (Value.int .u8 0) := ⟨_, rfl⟩
 rw [← hL] at hblk
 have HL : Hid (L = List.replicate N (Value.int .u8 0) ∧ L.length = N) := ⟨hL, by rw [hL]; simp⟩
 obtain ⟨C, hC⟩ : ∃ C, C = bs xs := ⟨_, rfl⟩
 have HC : Hid (C = bs xs ∧ C.length = xs.length) := ⟨hC, by rw [hC, bs_len]⟩
 have hsz : (Tryz.prog.info? 5).map (·.size) = some 1 := by rw [hi]; simp [hz1]
 obtain ⟨ao', cap', he, _, _, hr'⟩ := hlater w1 hbel
 rw [bs_len] at he hr'
 simp only [Value.slice.injEq] at he
 obtain ⟨rfl, _, rfl⟩ := he
 have HS : Hid (0 < C.length → ∃ ad, ao = some ad ∧ ∀ j u, C[j]? = some u → w1.cell? (ad.add j) = some u) := by
  intro hp
  rw [HC.out.2] at hp
  obtain ⟨b, off, rfl, hcell⟩ := hr' hp
  refine ⟨_, rfl, fun j u hj => ?_⟩
  rw [Addr.add_lit, hcell j (by have := (List.getElem?_eq_some_iff.1 hj).1; rw [HC.out.2] at this; exact this), ← HC.out.1]
  exact hj
 have HO : Hid (∀ u ∈ C, u.oneCell' = true) := by show ∀ u ∈ C, u.oneCell' = true; rw [hC]; exact bs_one _
 have hmin : C.length = Nat.min xs.length N := HC.out.2.trans (Nat.min_eq_left (by omega)).symm
 have HM : Hid (C.length = Nat.min xs.length N) := hmin
 clear hown hgrow hL hC hr hr' hmin hlater
 go_wp2_with (refine wpList_copy_splice rfl (.tmp 22) (.tmp 23) 22 22 rfl 5 Tryz.underlying22 hsz _ _ _ _ _ _ rfl rfl w.heap.size 0 L 5 hblk C HM.out (fun hp => ⟨rfl, HS.out hp⟩) (by rw [HC.out.2, HL.out.2]; omega) HO.out w.heap.size w hbel (Nat.le_refl _) ?_)
 intro w2 hg2 hb2
 obtain ⟨L2, hL2⟩ : ∃ L2, L2 = bs xs ++ List.replicate (9 + Z) (Value.int .u8 0) := ⟨_, rfl⟩
 have hL2l : L2.length = N := by rw [hL2]; simp [bs]; omega
 have hown2 : w2.ownsRow w.heap.size 5 1 (.slice (some ⟨w.heap.size, 0, none⟩) N N) N L2 := by
  have hfin := hg2.out
  have e2 : splice L 0 C = L2 := by
   rw [hL2, HL.out.1, HC.out.1]
   unfold splice
   simp [bs]
   omega
  rw [e2] at hfin
  exact full_own hfin (Nat.le_refl _) hL2l (by unfold maxLen; omega)
 obtain ⟨u, hu⟩ : ∃ u, w2.cell? ⟨w.heap.size, xs.length, none⟩ = some u := ⟨L2[xs.length]'(by omega), by rw [hown2.cellAt xs.length (by omega)]; simp⟩
 have hf := hown2.frozenAt xs.length
 obtain ⟨R, hR⟩ : ∃ R : Nat → List Int, R = fun t => xs ++ [128] ++ List.replicate (Z + 8 - t) 0 ++ (be8 (xs.length * 8)).drop (8 - t) := ⟨_, rfl⟩
 have HR0 : Hid (L2.set xs.length (.int .u8 128) = bs (R 0)) := by
  show _ = _
  rw [hL2, hR, show 9 + Z = (Z + 8 - 0) + 1 by omega, List.replicate_succ, List.set_append_right _ _ (by rw [bs_len]; omega), bs_len, Nat.sub_self]
  simp [bs, be8]
 have HRn : Hid (∀ t, t < 8 → (bs (R t)).set (N - 1 - t) (.int .u8 (((xs.length * 8 : Nat) : Int) / 2 ^ (8 * t) % 256)) = bs (R (t + 1))) := by
  intro t ht
  rw [hR]
  show (bs (xs ++ [128] ++ List.replicate (Z + 8 - t) 0 ++ (be8 (xs.length * 8)).drop (8 - t))).set _ _ = bs (xs ++ [128] ++ List.replicate (Z + 8 - (t + 1)) 0 ++ (be8 (xs.length * 8)).drop (8 - (t + 1)))
  rw [drop_be8 _ t ht, show Z + 8 - t = (Z + 8 - (t + 1)) + 1 by omega, ← set_mid (xs ++ [128]) (Z + 8 - (t + 1)) 0 _ _ (N - 1 - t) (by simp; omega)]
  simp [bs, List.map_set]
 have HRl : Hid (∀ t, t ≤ 8 → (bs (R t)).length = N) := by
  intro t ht
  rw [hR, bs_len]
  simp [be8]
  omega
 have HR8 : Hid (R 8 = padded xs) := by
  show _ = _
  rw [hR]
  simp [padded, HZ.out]
 have HS2 : Hid ((w2.setCell ⟨w.heap.size, xs.length, none⟩ (.int .u8 128)).ownsRow w.heap.size 5 1 (.slice (some ⟨w.heap.size, 0, none⟩) N N) N (bs (R 0))) := by
  have := (hown2.stored xs.length (.int .u8 128)).1
  rw [HR0.out] at this
  exact this
 clear hR hL2 hL2l hown2 HR0 hg2 hbel hblk hsz
 go_wp2
 go_loopw [33] (fun i wr => ∃ t : Nat, t ≤ 8 ∧ i = .int .i64 (t : Int) ∧ wr.ownsRow w.heap.size 5 1 (.slice (some ⟨w.heap.size, 0, none⟩) N N) N (bs (R t)) ∧ Below w.heap.size w wr) (fun i _ => 8 - (intOf i).toNat)
 case atStart => exact ⟨0, by omega, rfl, HS2.out, hb2.setCell (Nat.le_refl _) _⟩
 case round =>
  obtain ⟨t, ht, rfl, ho, hb⟩ := hrel
  clear hu hf HS2
  by_cases hlt : t < 8
  ·obtain ⟨u, hu⟩ : ∃ u, wr.cell? ⟨w.heap.size, N - 1 - t, none⟩ = some u := ⟨(bs (R t))[N - 1 - t]'(by rw [HRl.out t ht]; omega), by rw [ho.cellAt (N - 1 - t) (by omega)]; simp⟩
   have hf := ho.frozenAt (N - 1 - t)
   have hst := (ho.stored (N - 1 - t) (.int .u8 (((xs.length * 8 : Nat) : Int) / 2 ^ (8 * t) % 256))).1
   rw [HRn.out t hlt, show ((xs.length * 8 : Nat) : Int) = (xs.length : Int) * 8 by omega] at hst
   have HS3 : Hid _ := hst
   have t0 : ((N : Int) - 1 - (t : Int)).toNat = N - 1 - t := by omega
   clear hst
   go_wp2
   go_roundw
   case rel => exact ⟨t + 1, by omega, by go_num, HS3.out, hb.setCell (Nat.le_refl _) _⟩
   case measure => simp [intOf]; omega
  ·have ht8 : t = 8 := by omega
   subst ht8
   rw [HR8.out] at ho
   go_wp2
   go_ret
   exact ⟨_, rfl, Own.of ho, hb⟩
theorem quiet_eq {P : Program} {f : FuncId} {args : Array Value} {w : World} {n : Nat} {v : Value}
  (h : Calls P f args (w.drewN n) fun e w' => e = .returned v ∧ w.drewN n = w') : Calls P f args (w.drewN n) fun e w'' => e = .returned v ∧ ∃ m, w'' = w.drewN m :=
 h.mono fun _ _ ⟨he, hm⟩ => ⟨he, n, hm.symm⟩
end Go.Proofs.YtchonoonclllbaaGreatDoor.Sha

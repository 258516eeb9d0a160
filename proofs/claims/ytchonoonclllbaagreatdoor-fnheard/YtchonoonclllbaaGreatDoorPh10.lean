/- Texts in one: HeE, He2, He3, HeO, Lg1, Draw, TrD. -/
import Derived.Test.YtchonoonclllbaaGreatDoorPh9
import Derived.Laws.StructEq
import Derived.BigQuiet
import Derived.Deep.RegionHeld3
import Derived.Deep.RegionWith
set_option maxHeartbeats 16000000
set_option linter.unusedVariables false
set_option linter.unusedSimpArgs false
namespace Go.Proofs.YtchonoonclllbaaGreatDoor.He
open Go.RowKit Mem Laws Bytes Sha Tr
theorem fieldsH : Tryz.prog.underlying 26 = some (.struct (Tryz.prog.fieldsOf 26)) := by kernel_rfl
theorem heldH : Tryz.prog.stoodInHeld 26 = false := by kernel_rfl
theorem guardH : Tryz.prog.eqGuardType Tryz.prog.depth 26 = false := by kernel_rfl
theorem eqHrun (w : World) (a b : Hd) :
  (Op.equalIn 10000 26 (.agg #[.int .i64 a.n, .string a.r]) (.agg #[.int .i64 b.n, .string b.r])).run Tryz.prog w = .ok (eqH a b) w := by
 rw [run_equalIn_struct w 9999 _ _ _ fieldsH heldH]
 simp [Program.fieldsOf, Tryz.underlying26, Op.eqFields, go_sem, run_underlying Tryz.underlying3, run_underlying Tryz.underlying9, Tryz.underlying3, Tryz.underlying9, part]
 unfold eqH
 repeat' split
 all_goals simp_all
theorem eqlH (w : World) (a b : Hd) : (binOp .eql 26 (.agg #[.int .i64 a.n, .string a.r]) (.agg #[.int .i64 b.n, .string b.r])).run Tryz.prog w = .ok (.bool (eqH a b)) w := by
 rw [run_eql_struct, eqHrun]
 rfl
theorem neqH (w : World) (a b : Hd) : (binOp .neq 26 (.agg #[.int .i64 a.n, .string a.r]) (.agg #[.int .i64 b.n, .string b.r])).run Tryz.prog w = .ok (.bool (!eqH a b)) w := by
 rw [run_neq_struct, eqHrun]
 rfl
theorem grdH (w : World) (op : BinOp) (x y : Operand) (xs ys : Array Value) : (eqGuard op 26 x y (.agg xs) (.agg ys)).run Tryz.prog w = .ok () w := run_eqGuard_agg w op 26 x y xs ys guardH
theorem eqH_iff (a b : Hd) : eqH a b = true ↔ a = b := by
 unfold eqH
 simp only [Bool.and_eq_true, beq_iff_eq, ByteArray.toList_eq]
 constructor
 ·rintro ⟨h1, h2⟩
  exact Hd.ext' h1 (by apply ByteArray.ext; apply Array.ext'; exact h2)
 ·rintro rfl
  exact ⟨rfl, rfl⟩
theorem keepH {W W' : World} {p : Addr} {x : Value} (h : W.cell? p = some x) (b : Below W.heap.size W W') : W'.cell? p = some x := by
 rw [b.cell (World.block_lt_of_cell? W p h)]; exact h
theorem infoH : (Tryz.prog.info? 26).map (fun i => (i.zero, i.size, i.bytes)) = some (some (.agg #[.int .i64 0, .string ⟨#[]⟩]), 2, 24) := by kernel_rfl
set_option maxRecDepth 1000000 in
theorem ok_spec (w : World) (h : Hd) : Calls Tryz.prog 50 #[.agg #[.int .i64 h.n, .string h.r]] w fun e w' => e = .returned (.bool (okH h)) ∧ Below w.heap.size w w' := by
 have HB : Hid (Below w.heap.size w (w.alloc (.cells #[.int .i64 h.n, .string h.r] 26))) := (Below.refl _ _).alloc (Nat.le_refl _) _
 by_cases hn : 0 ≤ h.n ∧ h.n ≤ 200
 ·have q := in6t (w.alloc (.cells #[.int .i64 h.n, .string h.r] 26)) hn
  obtain ⟨t, ht⟩ : ∃ t, ((h.r.size : Int) == 32) = t := ⟨_, rfl⟩
  have HN : Hid (okH h = t) := by
   show _ = _
   rw [← ht]
   unfold okH
   by_cases h32 : h.r.size = 32
   ·rw [decide_eq_true ⟨hn, h32⟩, h32]; rfl
   ·rw [decide_eq_false (fun c => h32 c.2)]
    exact (beq_eq_false_iff_ne.2 (by omega)).symm
  clear hn
  go_enter Tryz.func50, Tryz.ntmps50
  go_wp2_with fail
  refine q.mono ?_
  rintro e w1 ⟨rfl, rfl⟩
  go_wp2
  go_ret
  exact ⟨by rw [HN.out]; rfl, HB.out⟩
 ·have q := in6f (w.alloc (.cells #[.int .i64 h.n, .string h.r] 26)) hn
  have HN : Hid (okH h = false) := by show _ = _; unfold okH; rw [decide_eq_false (fun c => hn c.1)]
  clear hn
  go_enter Tryz.func50, Tryz.ntmps50
  go_wp2_with fail
  refine q.mono ?_
  rintro e w1 ⟨rfl, rfl⟩
  go_wp2
  go_ret
  exact ⟨by rw [HN.out]; rfl, HB.out⟩
theorem signed_snoc {t : List Hd} {k : Nat} {x : Hd} (hx : t[k]? = some x) (h : Hd) : signed (t.take (k + 1)) h = (signed (t.take k) h || eqH x h) := by
 unfold signed
 rw [List.take_add_one, hx]
 simp
theorem signed_yes {t : List Hd} {k : Nat} {x h : Hd} (hx : t[k]? = some x) (he : eqH x h = true) : signed t h = true := by
 unfold signed
 rw [List.any_eq_true]
 exact ⟨x, List.mem_of_getElem? hx, he⟩
set_option maxRecDepth 1000000 in
theorem signed_spec (w : World) (v : Value) (t : List Hd) (h : Hd) (hs : Sh w v t) (hx : t.length ≤ 1000000000000) :
  Calls Tryz.prog 91 #[v, .agg #[.int .i64 h.n, .string h.r]] w fun e w' => e = .returned (.bool (signed t h)) ∧ Below w.heap.size w w' := by
 obtain ⟨W, hW, r0, bW⟩ : ∃ W, Hid (w.alloc (.cells #[.int .i64 h.n, .string h.r] 26) = W) ∧ W.heap[w.heap.size]? = some (.cells (hc h) 26 (0, 0)) ∧ Below w.heap.size w W := ⟨_, rfl, heap_alloc_new w _, (Below.refl _ _).alloc (Nat.le_refl _) _⟩
 have HS : Hid (Sh W v t) := hs.later bW
 obtain ⟨ao, cap, rfl, hcap⟩ := Sh.form hs
 have p0 : W.cell? ⟨w.heap.size, 0, none⟩ = some (.int .i64 h.n) := row_at r0 0
 have p1 : W.cell? ⟨w.heap.size, 1, none⟩ = some (.string h.r) := row_at r0 1
 obtain ⟨S, hS⟩ : ∃ S, signed t h = S := ⟨_, rfl⟩
 rw [hS]
 have HSS : Hid (signed t h = S) := hS
 have eq1 : ∀ (W : World) (x : Hd), _ := fun W x => eqlH W x h
 have gr1 : ∀ (W : World) (x y : Operand) (xs ys : Array Value), _ := fun W x y xs ys => grdH W .eql x y xs ys
 clear hs hS r0
 go_enter Tryz.func91, Tryz.ntmps91
 go_wp2
 rw [hW.out]
 go_loopw [5] (fun i wr => ∃ k n : Nat, k ≤ t.length ∧ i = .int .i64 (k : Int) ∧ Hid (signed (t.take k) h = false) ∧ wr = W.drewN n) (fun i _ => t.length - (intOf i).toNat)
 case atStart => exact ⟨0, 0, Nat.zero_le _, rfl, rfl, rfl⟩
 case round =>
  obtain ⟨k, n, hk, rfl, HK, rfl⟩ := hrel
  by_cases hlt : k < t.length
  ·obtain ⟨x, hx0⟩ : ∃ x, t[k]? = some x := ⟨t[k], by simp [hlt]⟩
   obtain ⟨b, off, cap', he, _, c0, c1⟩ := Sh.at HS.out hx0
   simp only [Value.slice.injEq] at he
   obtain ⟨rfl, _, rfl⟩ := he
   have eq2 := fun W => eq1 W x
   by_cases hxh : eqH x h = true
   ·have HF : Hid (S = true) := by show _ = _; rw [← HSS.out]; exact signed_yes hx0 hxh
    simp only [hxh] at eq2
    clear hx0 HK eq1 hxh
    go_wp2
    go_quiet (fail)
    go_wp2
    go_ret
    exact ⟨by rw [HF.out]; rfl, below_drewN (below_drewN bW _) _⟩
   ·have hxf : eqH x h = false := by simpa using hxh
    have HN : Hid (signed (t.take (k + 1)) h = false) := by show _ = _; rw [signed_snoc hx0, HK.out, hxf]; rfl
    simp only [hxf] at eq2
    clear hx0 HK eq1 hxh hxf
    go_wp2
    go_quiet (fail)
    go_wp2
    go_roundw
    case rel => exact ⟨k + 1, n + nq, by omega, by go_num, HN, rfl⟩
    case measure => simp [intOf]; omega
  ·have HF : Hid (S = false) := by
    show _ = _
    have h1 := HK.out
    rw [List.take_of_length_le (by omega)] at h1
    rw [← HSS.out, h1]
   clear HK
   go_wp2
   go_ret
   exact ⟨by rw [HF.out]; rfl, below_drewN bW n⟩
theorem bestF_snoc (b : Hd) (r : List Hd) (x : Hd) : bestF b (r ++ [x]) = if (bestF b r).n < x.n then x else bestF b r := by
 induction r generalizing b with
 | nil => rfl
 | cons y r ih =>
  simp only [List.cons_append, bestF]
  split
  ·exact ih y
  ·exact ih b
set_option maxRecDepth 1000000 in
theorem best_spec (w : World) (v : Value) (t : List Hd) (hs : Sh w v t) (hx : t.length ≤ 1000000000000) :
  Calls Tryz.prog 101 #[v] w fun e w' => e = .returned (.agg #[.int .i64 (best t).n, .string (best t).r]) ∧ Below w.heap.size w w' := by
 cases t with
 | nil =>
  obtain ⟨ao, cap, rfl, hcap⟩ := Sh.form hs
  have HR : Hid ((w.alloc (.cells #[.int .i64 0, .string ⟨#[]⟩] 26)).heap[w.heap.size]? = some (.cells (hc hd0) 26 (0, 0))) := heap_alloc_new w _
  have HB : Hid (Below w.heap.size w (w.alloc (.cells #[.int .i64 0, .string ⟨#[]⟩] 26))) := (Below.refl _ _).alloc (Nat.le_refl _) _
  clear hs
  go_enter Tryz.func101, Tryz.ntmps101
  go_wp2_with (refine wpList_store_row rfl 26 _ _ rfl w.heap.size (hc hd0) rfl rfl 26 _ HR.out (sizeH hd0) rfl (oneH hd0) ?_)
  exact bodyPost_ret (v := .agg (hc hd0)) (results_cell_row rfl _ _ w.heap.size 26 _ (0, 0) _ rfl (setRow_heap _ _ _ _ _ (0, 0) HR.out) Tryz.underlying26 rfl (sizeH hd0)) rfl ⟨rfl, below_setRow HB.out (Nat.le_refl _) _⟩
 | cons q l =>
  have HS : Hid (Sh w v (q :: l)) := hs
  obtain ⟨b, off, cap, rfl, hcap, c0, c1⟩ := Sh.at hs (k := 0) (q := q) rfl
  simp only [Nat.zero_mul, Nat.add_zero] at c0 c1
  have hbw : b < w.heap.size := World.block_lt_of_cell? w _ c0
  simp only [List.length_cons] at *
  have d0 : (((l.length : Int) + 1) == 0) = false := by rw [beq_eq_false_iff_ne]; omega
  have HA0 : Hid (((w.alloc (.cells #[.int .i64 0, .string ⟨#[]⟩] 26)).alloc (.cells #[.int .i64 q.n, .string q.r] 26)).heap[w.heap.size + 1]? = some (.cells (hc q) 26 (0, 0))) := heap_alloc2_new w _ _
  have HA1 : Hid (((w.alloc (.cells #[.int .i64 0, .string ⟨#[]⟩] 26)).alloc (.cells #[.int .i64 q.n, .string q.r] 26)).heap[w.heap.size]? = some (.cells (hc hd0) 26 (0, 0))) := heap_alloc2_old w _ _
  have HAB : Hid (Below w.heap.size w ((w.alloc (.cells #[.int .i64 0, .string ⟨#[]⟩] 26)).alloc (.cells #[.int .i64 q.n, .string q.r] 26))) := ((Below.refl _ _).alloc (Nat.le_refl _) _).alloc (by simp) _
  obtain ⟨M, hM⟩ : ∃ M, bestF q l = M := ⟨_, rfl⟩
  have HM : Hid (bestF q l = M) := hM
  have e0 : best (q :: l) = M := hM
  rw [e0]
  clear hs e0 hM
  go_enter Tryz.func101, Tryz.ntmps101
  go_wp2_with fail
  go_loopw [4] (fun i wr => ∃ (k : Nat) (m : Hd), k ≤ l.length ∧ i = .int .i64 ((k : Int) + 1) ∧ Hid (m = bestF q (l.take k)) ∧ wr.heap[w.heap.size + 1]? = some (.cells (hc m) 26 (0, 0)) ∧ wr.heap[w.heap.size]? = some (.cells (hc hd0) 26 (0, 0)) ∧ Below w.heap.size w wr) (fun i _ => l.length + 1 - (intOf i).toNat)
  case atStart => exact ⟨0, q, Nat.zero_le _, rfl, rfl, HA0.out, HA1.out, HAB.out⟩
  case round =>
   obtain ⟨k, m, hk, rfl, HK, r1, r0, hb⟩ := hrel
   clear c0 c1 HA0 HA1 HAB
   by_cases hlt : k < l.length
   ·obtain ⟨x, hx0⟩ : ∃ x, l[k]? = some x := ⟨l[k], by simp [hlt]⟩
    obtain ⟨b', off', cap', he, _, c0, c1⟩ := Sh.at (HS.out.later hb) (k := k + 1) (q := x) (by simpa using hx0)
    simp only [Value.slice.injEq, Option.some.injEq, Addr.mk.injEq, and_true] at he
    obtain ⟨⟨rfl, rfl⟩, -, rfl⟩ := he
    have ek : (k + 1) * 2 = 2 + k * 2 := by omega
    have HN := bestF_snoc q (l.take k) x
    have ht : l.take (k + 1) = l.take k ++ [x] := by rw [List.take_add_one, hx0]; rfl
    rw [← ht, ← HK.out] at HN
    have m0 : wr.cell? ⟨w.heap.size + 1, 0, none⟩ = some (.int .i64 m.n) := row_at r1 0
    have HR1 : Hid (wr.heap[w.heap.size + 1]? = some (.cells (hc m) 26 (0, 0))) := r1
    have HR0 : Hid (wr.heap[w.heap.size]? = some (.cells (hc hd0) 26 (0, 0))) := r0
    have HBb : Hid (Below w.heap.size w wr) := hb
    by_cases hgt : m.n < x.n
    ·rw [if_pos hgt] at HN
     have HN2 : Hid (x = bestF q (l.take (k + 1))) := HN.symm
     clear HN ht HK ek hx0 r1 r0 hb
     go_wp2
     go_quiet (fail)
     go_wp2_with (refine wpList_store_row rfl 26 _ _ rfl (w.heap.size + 1) (hc x) rfl rfl 26 _ HR1.out (sizeH x) rfl (oneH x) ?_)
     go_roundw
     case rel => exact ⟨k + 1, x, by omega, by go_num, HN2, setRow_heap _ _ _ _ _ (0, 0) HR1.out, (setRow_other _ _ _ _ (by omega)).trans HR0.out, below_setRow (below_drewN HBb.out _) (by omega) _⟩
     case measure => simp [intOf]; omega
    ·rw [if_neg hgt] at HN
     have HN2 : Hid (m = bestF q (l.take (k + 1))) := HN.symm
     clear HN ht HK ek hx0 r1 r0 hb
     go_wp2
     go_quiet (fail)
     go_wp2
     go_roundw
     case rel => exact ⟨k + 1, m, by omega, by go_num, HN2, HR1.out, HR0.out, below_drewN HBb.out _⟩
     case measure => simp [intOf]; omega
   ·have HF : Hid (m = M) := by
     have h := HK.out
     rw [List.take_of_length_le (by omega), HM.out] at h
     exact h
    clear HK HM
    go_wp2_with (first | (refine wpList_load_row rfl 26 _ rfl (w.heap.size + 1) rfl 26 (hc m) (0, 0) _ r1 Tryz.underlying26 rfl (sizeH m) ?_) | (refine wpList_store_row rfl 26 _ _ rfl w.heap.size (hc m) rfl rfl 26 _ r0 (sizeH m) rfl (oneH m) ?_))
    exact bodyPost_ret (v := .agg (hc m)) (results_cell_row rfl _ _ w.heap.size 26 _ (0, 0) _ rfl (setRow_heap _ _ _ _ _ (0, 0) r0) Tryz.underlying26 rfl (sizeH m)) rfl ⟨by rw [← HF.out]; rfl, below_setRow hb (Nat.le_refl _) _⟩
set_option maxRecDepth 1000000 in
theorem headOf_spec (w : World) (v : Value) (l : List ByteArray) (h : Sl w v (ss l)) (hl : l.length ≤ 1000000000000) (hz : ∀ s ∈ l, s.size ≤ 10000000000) :
  Calls Tryz.prog 40 #[v] w fun e w' => e = .returned (.agg #[.int .i64 (headOf l).n, .string (headOf l).r]) ∧ Below w.heap.size w w' := by
 have HR : Hid ((w.alloc (.cells #[.int .i64 0, .string ⟨#[]⟩] 26)).heap[w.heap.size]? = some (.cells (hc hd0) 26 (0, 0))) := heap_alloc_new w _
 have HB : Hid (Below w.heap.size w (w.alloc (.cells #[.int .i64 0, .string ⟨#[]⟩] 26))) := (Below.refl _ _).alloc (Nat.le_refl _) _
 by_cases h2 : l.length ≤ 200
 ·have q := root_any l.length l (Nat.le_refl _) (w.alloc (.cells #[.int .i64 0, .string ⟨#[]⟩] 26)) v (h.later HB.out) (by omega) hz
  obtain ⟨M, hM⟩ : ∃ M, headOf l = M := ⟨_, rfl⟩
  have hM2 : M = ⟨l.length, root l⟩ := by rw [← hM]; unfold headOf; rw [if_pos h2]
  obtain ⟨ao, cap, rfl, hcap, _⟩ := h
  have d2 : ¬ (200 : Int) < (l.length : Int) := by omega
  obtain ⟨x, hx⟩ : ∃ x, root l = x := ⟨_, rfl⟩
  rw [hx] at q hM2
  rw [hM, hM2]
  rw [ss_len] at *
  clear hx hM hM2 hz
  go_enter Tryz.func40, Tryz.ntmps40
  go_wp2_with fail
  refine q.mono ?_
  rintro e w1 ⟨rfl, b1⟩
  have R1 := rowKeep HR.out b1
  have B1 : Below w.heap.size w w1 := HB.out.trans (b1.mono HB.out.size)
  clear q HR b1
  go_wp2_with (refine wpList_store_row rfl 26 _ _ rfl w.heap.size (hc (⟨(l.length : Int), x⟩ : Hd)) rfl rfl 26 _ R1 (sizeH (⟨(l.length : Int), x⟩ : Hd)) rfl (oneH (⟨(l.length : Int), x⟩ : Hd)) ?_)
  exact bodyPost_ret (v := .agg (hc ⟨(l.length : Int), x⟩)) (results_cell_row rfl _ _ w.heap.size 26 _ (0, 0) _ rfl (setRow_heap _ _ _ _ _ (0, 0) R1) Tryz.underlying26 rfl (sizeH _)) rfl ⟨rfl, below_setRow B1 (Nat.le_refl _) _⟩
 ·have d2 : (200 : Int) < (l.length : Int) := by omega
  have hM : headOf l = hd0 := by unfold headOf; rw [if_neg h2]
  rw [hM]
  obtain ⟨ao, cap, rfl, hcap, _⟩ := h
  rw [ss_len]
  clear hz hM
  go_enter Tryz.func40, Tryz.ntmps40
  go_wp2_with (refine wpList_store_row rfl 26 _ _ rfl w.heap.size (hc hd0) rfl rfl 26 _ HR.out (sizeH hd0) rfl (oneH hd0) ?_)
  exact bodyPost_ret (v := .agg (hc hd0)) (results_cell_row rfl _ _ w.heap.size 26 _ (0, 0) _ rfl (setRow_heap _ _ _ _ _ (0, 0) HR.out) Tryz.underlying26 rfl (sizeH hd0)) rfl ⟨rfl, below_setRow HB.out (Nat.le_refl _) _⟩
theorem headOf_size (l : List ByteArray) : (headOf l).r.size ≤ 32 := by
 unfold headOf
 split
 ·simp only [root_size]; exact Nat.le_refl _
 ·exact Nat.zero_le _
end Go.Proofs.YtchonoonclllbaaGreatDoor.He
namespace Go.Proofs.YtchonoonclllbaaGreatDoor.Lg
open Go.RowKit Mem Laws Bytes Sha Tr He
def lc (v : Value) (h : Hd) : Array Value := #[v, .int .i64 h.n, .string h.r]
theorem sizeL (v : Value) (h : Hd) : (Tryz.prog.info? 28).map (·.size) = some (lc v h).size := by
 show _ = some 3
 kernel_rfl
theorem oneL {v : Value} (h : Hd) (hv : v.oneCell' = true) : (lc v h).all (·.oneCell') = true := by
 simp [lc, Value.oneCell']
 exact hv
def logOk (l : List ByteArray) (h : Hd) : Bool := decide (l.length ≤ 200) && eqH h (headOf l)
theorem logOk_yes {l : List ByteArray} {h : Hd} (hk : logOk l h = true) : l.length ≤ 200 ∧ h = headOf l := by
 unfold logOk at hk
 simp only [Bool.and_eq_true, decide_eq_true_eq] at hk
 exact ⟨hk.1, (eqH_iff _ _).1 hk.2⟩
theorem logOk_of {l : List ByteArray} (hl : l.length ≤ 200) : logOk l (headOf l) = true := by
 unfold logOk
 simp only [Bool.and_eq_true, decide_eq_true_eq]
 exact ⟨hl, (eqH_iff _ _).2 rfl⟩
set_option maxRecDepth 1000000 in
theorem lognew_spec (w : World) : Calls Tryz.prog 138 #[] w fun e w' => e = .returned (.agg #[.slice none 0 0, .int .i64 (headOf []).n, .string (headOf []).r]) ∧ Below w.heap.size w w' := by
 obtain ⟨W, hW⟩ : ∃ W, W = (w.alloc (.cells (lc (.slice none 0 0) hd0) 28)).alloc (.cells #[] 9) := ⟨_, rfl⟩
 have HB : Hid (Below w.heap.size w W) := by
  show Below _ _ _
  rw [hW]
  exact ((Below.refl _ _).alloc (Nat.le_refl _) _).alloc (by simp) _
 have HR : Hid (W.heap[w.heap.size]? = some (.cells (lc (.slice none 0 0) hd0) 28 (0, 0))) := by show _ = _; rw [hW]; exact heap_alloc2_old w _ _
 have q : ∀ v, Sl W v (ss []) → _ := fun v hv => headOf_spec W v [] hv (by simp) (by simp)
 have q1 := q (.slice (some ⟨w.heap.size + 1, 0, none⟩) 0 0) (by
  have h := (emptyT (w.alloc (.cells (lc (.slice none 0 0) hd0) 28)) 0 (Nat.zero_le _)).sl
  rw [hW]
  simpa using h)
 obtain ⟨M, hM⟩ : ∃ M, headOf [] = M := ⟨_, rfl⟩
 rw [hM] at q1 ⊢
 rw [hW] at q1
 have HW : Hid (W = _) := hW
 clear hW hM q
 unfold lc hd0 at q1
 go_enter Tryz.func138, Tryz.ntmps138
 go_wp2_with fail
 refine q1.mono ?_
 rintro e w1 ⟨rfl, b1⟩
 have hW := HW.out
 unfold lc hd0 at hW
 rw [← hW] at b1
 have R1 := rowKeep HR.out b1
 have B1 : Below w.heap.size w w1 := HB.out.trans (b1.mono HB.out.size)
 clear q1 HW hW b1 HR HB
 go_wp2_with (refine wpList_store_row rfl 28 _ _ rfl w.heap.size (lc (.slice none 0 0) M) rfl rfl 28 _ R1 (sizeL _ _) rfl (oneL _ rfl) ?_)
 exact bodyPost_ret (v := .agg (lc (.slice none 0 0) M)) (results_cell_row rfl _ _ w.heap.size 28 _ (0, 0) _ rfl (setRow_heap _ _ _ _ _ (0, 0) R1) Tryz.underlying28 rfl (sizeL _ _)) rfl ⟨rfl, below_setRow B1 (Nat.le_refl _) _⟩
set_option maxRecDepth 1000000 in
theorem logok_spec (w : World) (v : Value) (l : List ByteArray) (h : Hd) (hs : Sl w v (ss l)) (hl : l.length ≤ 1000000000000) (hz : ∀ s ∈ l, s.size ≤ 10000000000) :
  Calls Tryz.prog 94 #[.agg #[v, .int .i64 h.n, .string h.r]] w fun e w' => e = .returned (.bool (logOk l h)) ∧ Below w.heap.size w w' := by
 have hs0 := hs
 obtain ⟨ao, cap, rfl, hcap⟩ := hs.form
 rw [ss_len] at *
 obtain ⟨W, hW, r0, HB⟩ : ∃ W, Hid (w.alloc (.cells #[.slice ao l.length cap, .int .i64 h.n, .string h.r] 28) = W) ∧ W.heap[w.heap.size]? = some (.cells (lc (.slice ao l.length cap) h) 28 (0, 0)) ∧ Hid (Below w.heap.size w W) := ⟨_, rfl, heap_alloc_new w _, (Below.refl _ _).alloc (Nat.le_refl _) _⟩
 have c0 : W.cell? ⟨w.heap.size, 0, none⟩ = some (.slice ao l.length cap) := row_at r0 0
 have c1 : W.cell? ⟨w.heap.size, 1, none⟩ = some (.int .i64 h.n) := row_at r0 1
 have c2 : W.cell? ⟨w.heap.size, 2, none⟩ = some (.string h.r) := row_at r0 2
 have q := headOf_spec W.drew _ l (hs0.later (Below.drew HB.out)) hl hz
 have e1 : ∀ W', _ := fun W' => eqlH W' h (headOf l)
 have e2 : ∀ W' op x y xs ys, _ := fun W' op x y xs ys => grdH W' op x y xs ys
 have HN : Hid (logOk l h = (decide (l.length ≤ 200) && eqH h (headOf l))) := rfl
 obtain ⟨M, hM⟩ : ∃ M, headOf l = M := ⟨_, rfl⟩
 rw [hM] at q HN
 simp only [hM] at e1
 obtain ⟨B, hB⟩ : ∃ B, eqH h M = B := ⟨_, rfl⟩
 rw [hB] at HN
 simp only [hB] at e1
 obtain ⟨A, hA⟩ : ∃ A, logOk l h = A := ⟨_, rfl⟩
 rw [hA] at HN ⊢
 clear hM hB hA hs hs0 r0 hz
 by_cases h2 : l.length ≤ 200
 ·have d1 : decide ((l.length : Int) ≤ 200) = true := by simp; omega
  have HN2 : Hid (A = B) := by show _ = _; rw [HN.out]; simp [h2]
  clear HN
  go_enter Tryz.func94, Tryz.ntmps94
  go_wp2_with fail
  rw [hW.out]
  refine wp_region_held_drew (S := fun w' => w'.cell? ⟨w.heap.size, 0, none⟩ = some (.slice ao l.length cap) ∧ w'.cell? ⟨w.heap.size, 1, none⟩ = some (.int .i64 h.n) ∧ w'.cell? ⟨w.heap.size, 2, none⟩ = some (.string h.r)) (by kernel_rfl) ⟨c0, c1, c2⟩ (fun hHeld => ?_)
  refine Ke.q 0 ?_; try simp only [Act.put, pq]
  refine Ke.q 1 ?_; try simp only [Act.put, pq]
  refine Ke.q 2 ?_; try simp only [Act.put, pq]
  refine Ke.q 3 ?_; try simp only [Act.put, pq]
  refine Ke.q 4 ?_; try simp only [Act.put, pq]
  refine Ke.q 5 ?_; try simp only [Act.put, pq]
  refine Ke.q 6 ?_; try simp only [Act.put, pq]
  refine Ke.q 7 ?_; try simp only [Act.put, pq]
  refine Ke.q 8 ?_; try simp only [Act.put, pq]
  refine wpAnyH_ready (rs := [9]) (by kernel_rfl) (by simp) ?_
  refine AllReadyH.cons rfl (fun K hK => ?_) AllReadyH.nil
  go_simp
  refine (q).mono ?_
  rintro e w1 ⟨rfl, b1⟩
  refine hK.out _ _ ?_ (fun hHeld => ?_)
  ·exact ⟨keepR (W := W.drew) hHeld.1 b1, keepR (W := W.drew) hHeld.2.1 b1, keepR (W := W.drew) hHeld.2.2 b1⟩
  clear hK K
  try simp only [Act.put, pq]
  refine Ke.q 10 ?_; try simp only [Act.put, pq]
  refine Ke.q 11 ?_; try simp only [Act.put, pq]
  refine Ke.q 12 ?_; try simp only [Act.put, pq]
  refine wpAnyH_done (by kernel_rfl) ?_ _
  clear hHeld
  go_wp2
  go_ret
  exact ⟨by rw [HN2.out]; rfl, (Below.drew HB.out).trans (b1.mono HB.out.size)⟩
 ·have d1 : decide ((l.length : Int) ≤ 200) = false := by simp; omega
  have HN2 : Hid (A = false) := by show _ = _; rw [HN.out]; simp [h2]
  clear HN q
  go_enter Tryz.func94, Tryz.ntmps94
  go_wp2_with fail
  rw [hW.out]
  refine wp_region_held_drew (S := fun w' => w'.cell? ⟨w.heap.size, 0, none⟩ = some (.slice ao l.length cap) ∧ w'.cell? ⟨w.heap.size, 1, none⟩ = some (.int .i64 h.n) ∧ w'.cell? ⟨w.heap.size, 2, none⟩ = some (.string h.r)) (by kernel_rfl) ⟨c0, c1, c2⟩ (fun hHeld => ?_)
  refine Ke.q 0 ?_; try simp only [Act.put, pq]
  refine Ke.q 1 ?_; try simp only [Act.put, pq]
  refine Ke.q 2 ?_; try simp only [Act.put, pq]
  refine Ke.q 3 ?_; try simp only [Act.put, pq]
  refine Ke.q 4 ?_; try simp only [Act.put, pq]
  refine Ke.p 5 ?_; try simp only [Act.put, pq]
  refine Ke.p 6 ?_; try simp only [Act.put, pq]
  refine Ke.p 7 ?_; try simp only [Act.put, pq]
  refine Ke.p 8 ?_; try simp only [Act.put, pq]
  refine Ke.p 9 ?_; try simp only [Act.put, pq]
  refine Ke.p 10 ?_; try simp only [Act.put, pq]
  refine Ke.q 11 ?_; try simp only [Act.put, pq]
  refine Ke.q 12 ?_; try simp only [Act.put, pq]
  refine wpAnyH_done (by kernel_rfl) ?_ _
  clear hHeld
  go_wp2
  go_ret
  exact ⟨by rw [HN2.out]; rfl, Below.drew HB.out⟩
set_option maxRecDepth 1000000 in
theorem copy_spec (w : World) (v : Value) (l : List ByteArray) (h : Hd) (hs : Sl w v (ss l)) (hl : l.length ≤ 1000000000) :
  Calls Tryz.prog 135 #[.agg #[v, .int .i64 h.n, .string h.r]] w fun e w' => ∃ v', e = .returned (.agg #[v', .int .i64 h.n, .string h.r]) ∧ Own w' w.heap.size w'.heap.size 9 v' (ss l) ∧ Below w.heap.size w w' := by
 obtain ⟨i0, hi, hz0, hz1, hz2⟩ := info_parts info9t
 obtain ⟨W, hW⟩ : ∃ W, W = (w.alloc (.cells #[v, .int .i64 h.n, .string h.r] 28)).alloc (.cells #[.slice none 0 0, .int .i64 0, .string ⟨#[]⟩] 28) := ⟨_, rfl⟩
 have r0 : W.heap[w.heap.size]? = some (.cells (lc v h) 28 (0, 0)) := by rw [hW]; exact heap_alloc2_old w _ _
 have r1 : W.heap[w.heap.size + 1]? = some (.cells (lc (.slice none 0 0) hd0) 28 (0, 0)) := by rw [hW]; exact heap_alloc2_new w _ _
 have hB : Below w.heap.size w W := by rw [hW]; exact ((Below.refl _ _).alloc (Nat.le_refl _) _).alloc (by simp) _
 have hz : W.heap.size = w.heap.size + 2 := by rw [hW]; simp
 have HS : Hid (Sl W v (ss l)) := hs.later hB
 have HR1 : Hid _ := r1
 have HB : Hid _ := hB
 have HZ : Hid _ := hz
 have HW : Hid _ := hW
 obtain ⟨ao, cap, rfl, hcap⟩ := hs.form
 rw [ss_len] at *
 have c0 : W.cell? ⟨w.heap.size, 0, none⟩ = some (.slice ao l.length cap) := row_at r0 0
 have c1 : W.cell? ⟨w.heap.size, 1, none⟩ = some (.int .i64 h.n) := row_at r0 1
 have c2 : W.cell? ⟨w.heap.size, 2, none⟩ = some (.string h.r) := row_at r0 2
 clear hW r0 r1 hB hz
 have c6 : (ss []).length + (ss l).length ≤ maxLen := by rw [ss_len, ss_len]; unfold maxLen; simp; omega
 have c7 : ((ss []).length + (ss l).length) * 16 ≤ 140737488355328 := by rw [ss_len, ss_len]; simp; omega
 go_enter Tryz.func135, Tryz.ntmps135
 go_wp2_with fail
 rw [← HW.out]
 refine wp_region_held_drew (S := fun w' => w'.cell? ⟨w.heap.size, 0, none⟩ = some (.slice ao l.length cap) ∧ w'.cell? ⟨w.heap.size, 1, none⟩ = some (.int .i64 h.n) ∧ w'.cell? ⟨w.heap.size, 2, none⟩ = some (.string h.r)) (by kernel_rfl) ⟨c0, c1, c2⟩ (fun hHeld => ?_)
 refine Ke.q 1 ?_; try simp only [Act.put, pq]
 refine Ke.q 2 ?_; try simp only [Act.put, pq]
 refine Ke.q 4 ?_; try simp only [Act.put, pq]
 refine Ke.q 5 ?_; try simp only [Act.put, pq]
 refine wpAnyH_ready (rs := [0]) (by kernel_rfl) (by simp) ?_
 refine AllReadyH.cons rfl (fun K hK => ?_) AllReadyH.nil
 go_simp
 refine hK.out _ _ ⟨keepR (W := W.drew) hHeld.1 ((Below.refl _ _).alloc (Nat.le_refl _) _), keepR (W := W.drew) hHeld.2.1 ((Below.refl _ _).alloc (Nat.le_refl _) _), keepR (W := W.drew) hHeld.2.2 ((Below.refl _ _).alloc (Nat.le_refl _) _)⟩ (fun hHeld => ?_)
 clear hK K
 try simp only [Act.put, pq]
 refine wpAnyH_ready (rs := [3]) (by kernel_rfl) (by simp) ?_
 refine AllReadyH.cons rfl (fun K hK => ?_) AllReadyH.nil
 refine step_app (by rfl) (.tmp 3) (.tmp 5) 24 (by rfl) 9 i0 (.string ⟨#[]⟩) 16 Tryz.underlying24 hi hz0 hz1 hz2 rfl (w.heap.size + 2) _ _ (by rfl) (emptyT W.drew (w.heap.size + 2) (by show _ ≤ W.heap.size; rw [HZ.out]; exact Nat.le_refl _)) _ (by rfl) (ss l) (Sl.later (w := W.drew) HS.out ((Below.refl _ _).alloc (Nat.le_refl _) _)) (ss_one l) c6 c7 (by show _ ≤ (W.heap.push _).size; rw [Array.size_push, HZ.out]; omega) ?_
 intro v5 w5 o5 b5
 refine hK.out _ _ ⟨(b5.cell (by show w.heap.size < w.heap.size + 2; omega)).trans hHeld.1, (b5.cell (by show w.heap.size < w.heap.size + 2; omega)).trans hHeld.2.1, (b5.cell (by show w.heap.size < w.heap.size + 2; omega)).trans hHeld.2.2⟩ (fun hHeld => ?_)
 clear hK K
 try simp only [Act.put, pq]
 have o5 : Own w5 (w.heap.size + 2) w5.heap.size 9 v5 (ss l) := o5
 obtain ⟨ao5, L5, cap5, rfl, _, _⟩ := o5.form
 refine Ke.q 6 ?_; try simp only [Act.put, pq]
 have J1 : w5.heap[w.heap.size + 1]? = some (.cells (lc (.slice none 0 0) hd0) 28 (0, 0)) := (b5.block (w.heap.size + 1) (by omega)).trans ((heap_alloc_old W.drew _ (by show _ < W.heap.size; rw [HZ.out]; omega)).trans HR1.out)
 have JB : Below w.heap.size w w5 := ((Below.drew HB.out).alloc (by show _ ≤ W.heap.size; rw [HZ.out]; omega) _).trans (b5.mono (by omega))
 have hne : w.heap.size ≠ w.heap.size + 1 := by omega
 refine wpAnyH_ready (rs := [7]) (by kernel_rfl) (by simp) ?_
 refine AllReadyH.cons rfl (fun K hK => ?_) AllReadyH.nil
 rw [if_pos (by rfl)]
 refine wp_store_row 28 _ _ rfl (w.heap.size + 1) (lc (.slice ao5 L5 cap5) h) rfl rfl 28 _ J1 (sizeL _ _) rfl (oneL _ rfl) ?_
 refine hK.out _ _ ⟨cell_row (by exact hne) hHeld.1, cell_row (by exact hne) hHeld.2.1, cell_row (by exact hne) hHeld.2.2⟩ (fun hHeld => ?_)
 clear hK K
 try simp only [Act.put, pq]
 refine wpAnyH_done (by kernel_rfl) ?_ _
 clear hHeld
 go_wp2
 refine bodyPost_ret (v := .agg (lc (.slice ao5 L5 cap5) h)) (results_cell_row rfl _ _ (w.heap.size + 1) 28 _ (0, 0) _ rfl (setRow_heap _ _ _ _ _ (0, 0) J1) Tryz.underlying28 rfl (sizeL _ _)) rfl ⟨_, rfl, ?_, below_setRow JB (by omega) _⟩
 exact (o5.setRow _ (by omega)).mono (by omega) (by simp)
end Go.Proofs.YtchonoonclllbaaGreatDoor.Lg
namespace Go.Proofs.YtchonoonclllbaaGreatDoor.Draw
open Go.RowKit Mem Laws Bytes
def Cur (w : World) (g : Nat) (vb : Value) (n : Nat) : Prop :=
 ∃ (i : Nat) (h : Int), w.heap[g]? = some (.cells #[vb, .int .i64 (i : Int), .int .i64 h] 109 (0, 0)) ∧ i ≤ n
theorem Apart.put {a w : World} {g : Nat} (h : Apart g (g + 1) a w) (j : Nat) (u : Value) : Apart g (g + 1) a (w.setCell ⟨g, j, none⟩ u) :=
 Apart.setCell (p := ⟨g, j, none⟩) h (Nat.le_refl g) (Nat.lt_succ_self g) u
theorem info9 : (Tryz.prog.info? 9).map (fun i => (i.zero, i.size, i.bytes)) = some (some (.string ⟨#[]⟩), 1, 16) := by kernel_rfl
theorem and255 (x : Int) : 0 ≤ bits .and .i64 x 255 ∧ bits .and .i64 x 255 ≤ 255 := by
 have h : ∀ a : BitVec 64, (a &&& (255#64)).toNat ≤ 255 := fun a => by rw [BitVec.toNat_and]; exact Nat.and_le_right
 have e : bits .and .i64 x 255 = IntKind.i64.wrap ((BitVec.ofInt 64 x &&& 255#64).toNat : Int) := rfl
 rw [e]
 have hb := h (BitVec.ofInt 64 x)
 rw [IntKind.wrap_i64]
 omega
set_option maxRecDepth 1000000 in
theorem byte_any (W0 w : World) (g : Nat) (vb : Value) (xs : List Int) (hs : Sl W0 vb (bs xs)) (hby : Byt xs) (hx : xs.length ≤ 140737488355328) (hB : Below W0.heap.size W0 w) (hg : W0.heap.size ≤ g) (hc : Cur w g vb xs.length) :
  Calls Tryz.prog 82 #[.pointer (some ⟨g, 0, none⟩)] w fun e w' => ∃ x : Int, e = .returned (.int .i64 x) ∧ 0 ≤ x ∧ x ≤ 255 ∧ Cur w' g vb xs.length ∧ Apart g (g + 1) w w' := by
 obtain ⟨i, h, hblk, hi⟩ := hc
 have hs' := hs.later hB
 obtain ⟨ao, cap, rfl, hcp, _, hr⟩ := hs'
 have c0 := cell_of_row w g 0 _ _ _ hblk
 have c1 := cell_of_row w g 1 _ _ _ hblk
 have c2 := cell_of_row w g 2 _ _ _ hblk
 have f1 := frozen_of_row w g 1 _ _ hblk
 have f2 := frozen_of_row w g 2 _ _ hblk
 rw [bs_len] at hr hcp c0 hblk
 rw [bs_len]
 simp at c0 c1 c2
 have hset : ∀ (h2 : Int) (k : Nat), (w.setCell ⟨g, 2, none⟩ (.int .i64 h2)).heap[g]? = some (.cells #[.slice ao xs.length cap, .int .i64 (i : Int), .int .i64 h2] 109 (0, 0)) := fun h2 _ => heap_setCell_same w g 2 _ _ _ hblk
 have HS : Hid (∀ (h2 : Int), (w.setCell ⟨g, 2, none⟩ (.int .i64 h2)).heap[g]? = some (.cells #[.slice ao xs.length cap, .int .i64 (i : Int), .int .i64 h2] 109 (0, 0))) := fun h2 => hset h2 0
 clear hset hblk
 by_cases hlt : i < xs.length
 ·obtain ⟨b, off, c, rfl, hx0, hcell⟩ := Sl.byteAt hr rfl hlt
  have hcb := hby.at hx0
  have hbl : b < W0.heap.size := by
   obtain ⟨ao', cap', he, _, _, hr'⟩ := hs
   rw [bs_len] at he hr'
   simp only [Value.slice.injEq] at he
   obtain ⟨rfl, _, rfl⟩ := he
   obtain ⟨b', off', c', he', _, hcell'⟩ := Sl.byteAt hr' rfl hlt
   simp only [Option.some.injEq, Addr.mk.injEq, and_true] at he'
   obtain ⟨rfl, rfl⟩ := he'
   exact World.block_lt_of_cell? W0 ⟨b, off + i, none⟩ hcell'
  have hbg : ¬ b = g := by omega
  have hgb : ¬ g = b := by omega
  clear hx0 hr hs hby
  go_enter Tryz.func82, Tryz.ntmps82
  go_wp2
  generalize wrap64 (wrap64 (h * 6364136223846793005) + 1442695040888963407) = h2
  go_quiet (fail)
  go_wp2
  go_quiet (fail)
  go_wp2
  go_quiet (fail)
  go_wp2
  go_ret
  have h2b := HS.out h2
  refine ⟨_, rfl, (and255 _).1, (and255 _).2, ⟨i + 1, h2, heap_setCell_same _ g 1 _ _ _ h2b, by omega⟩, ?_⟩
  repeat (first | exact Apart.refl _ _ _ | refine Apart.quiet ?_ _ | refine Apart.put ?_ _ _)
 ·clear hr hs hby
  go_enter Tryz.func82, Tryz.ntmps82
  go_wp2
  generalize wrap64 (wrap64 (h * 6364136223846793005) + 1442695040888963407) = h2
  go_quiet (fail)
  go_wp2
  go_quiet (fail)
  go_wp2
  go_ret
  have h2b := HS.out h2
  refine ⟨_, rfl, (and255 _).1, (and255 _).2, ⟨i, h2, h2b, hi⟩, ?_⟩
  repeat (first | exact Apart.refl _ _ _ | refine Apart.quiet ?_ _ | refine Apart.put ?_ _ _)
structure Drawn (W0 w : World) (g : Nat) (vb : Value) (xs : List Int) (w' : World) : Prop where
 cur : Cur w' g vb xs.length
 apart : Apart g (g + 1) w w'
 below : Below W0.heap.size W0 w'
theorem Drawn.mk' {W0 w w' : World} {g : Nat} {vb : Value} {xs : List Int} (hB : Below W0.heap.size W0 w) (hg : W0.heap.size ≤ g) (hc : Cur w' g vb xs.length) (ha : Apart g (g + 1) w w') : Drawn W0 w g vb xs w' :=
 ⟨hc, ha, hB.trans (ha.below hg hB.size)⟩
theorem Cur.alloc {w : World} {g : Nat} {vb : Value} {n : Nat} (h : Cur w g vb n) (o : Obj) : Cur (w.alloc o) g vb n := by
 obtain ⟨i, x, hb, hi⟩ := h
 exact ⟨i, x, by rw [Below.heap_alloc _ _ _ (Array.getElem?_eq_some_iff.1 hb).1]; exact hb, hi⟩
theorem Cur.later {w w' : World} {g B : Nat} {vb : Value} {n : Nat} (h : Cur w g vb n) (hb : Below B w w') (hg : g < B) : Cur w' g vb n := by
 obtain ⟨i, x, hh, hi⟩ := h
 exact ⟨i, x, by rw [hb.block g hg]; exact hh, hi⟩
theorem Cur.lt {w : World} {g : Nat} {vb : Value} {n : Nat} (h : Cur w g vb n) : g < w.heap.size := by
 obtain ⟨i, x, hh, hi⟩ := h
 exact (Array.getElem?_eq_some_iff.1 hh).1
theorem byte_d (W0 w : World) (g : Nat) (vb : Value) (xs : List Int) (hs : Sl W0 vb (bs xs)) (hby : Byt xs) (hx : xs.length ≤ 140737488355328) (hB : Below W0.heap.size W0 w) (hg : W0.heap.size ≤ g) (hc : Cur w g vb xs.length) :
  Calls Tryz.prog 82 #[.pointer (some ⟨g, 0, none⟩)] w fun e w' => ∃ x : Int, e = .returned (.int .i64 x) ∧ 0 ≤ x ∧ x ≤ 255 ∧ Drawn W0 w g vb xs w' := by
 refine (byte_any W0 w g vb xs hs hby hx hB hg hc).mono ?_
 rintro e w' ⟨x, rfl, h0, h1, hcur, hap⟩
 exact ⟨x, rfl, h0, h1, Drawn.mk' hB hg hcur hap⟩
set_option maxRecDepth 1000000 in
theorem below_any (W0 w : World) (g : Nat) (vb : Value) (xs : List Int) (n : Int) (hn1 : 1 ≤ n) (hn2 : n ≤ 9223372036854775807) (hs : Sl W0 vb (bs xs)) (hby : Byt xs) (hx : xs.length ≤ 140737488355328) (hB : Below W0.heap.size W0 w) (hg : W0.heap.size ≤ g) (hc : Cur w g vb xs.length) :
  Calls Tryz.prog 39 #[.pointer (some ⟨g, 0, none⟩), .int .i64 n] w fun e w' => ∃ x : Int, e = .returned (.int .i64 x) ∧ 0 ≤ x ∧ x < n ∧ Drawn W0 w g vb xs w' := by
 by_cases hsm : n ≤ 256
 ·go_enter Tryz.func39, Tryz.ntmps39
  go_wp2_with fail
  refine (byte_d W0 w g vb xs hs hby hx hB hg hc).mono ?_
  rintro e w1 ⟨x, rfl, h0, h1, hd⟩
  go_wp2
  go_ret
  exact ⟨_, rfl, Int.emod_nonneg _ (by omega), Int.emod_lt_of_pos _ (by omega), hd⟩
 ·go_enter Tryz.func39, Tryz.ntmps39
  go_wp2_with fail
  refine (byte_d W0 w g vb xs hs hby hx hB hg hc).mono ?_
  rintro e w1 ⟨x, rfl, x0, x1, hd1⟩
  go_wp2_with fail
  refine (byte_d W0 w1 g vb xs hs hby hx hd1.below hg hd1.cur).mono ?_
  rintro e w2 ⟨y, rfl, y0, y1, hd2⟩
  go_wp2_with fail
  refine (byte_d W0 w2 g vb xs hs hby hx hd2.below hg hd2.cur).mono ?_
  rintro e w3 ⟨z, rfl, z0, z1, hd3⟩
  go_wp2
  go_ret
  exact ⟨_, rfl, Int.emod_nonneg _ (by omega), Int.emod_lt_of_pos _ (by omega), ⟨hd3.cur, Apart.trans hd1.apart (Apart.trans hd2.apart hd3.apart), hd3.below⟩⟩
def is (xs : List Int) : List Value := xs.map (Value.int .i64)
set_option maxRecDepth 1000000 in
theorem int_any (W0 w : World) (g : Nat) (vb : Value) (xs : List Int) (gl : Nat) (li : List Int) (hl : w.heap[gl]? = some (.cells (is li).toArray 3 (0, 0))) (hne : gl ≠ g) (hli : 1 ≤ li.length) (hl2 : li.length ≤ 1000) (hs : Sl W0 vb (bs xs)) (hby : Byt xs) (hx : xs.length ≤ 140737488355328) (hB : Below W0.heap.size W0 w) (hg : W0.heap.size ≤ g) (hc : Cur w g vb xs.length) :
  Calls Tryz.prog 64 #[.pointer (some ⟨g, 0, none⟩), .slice (some ⟨gl, 0, none⟩) li.length li.length] w fun e w' => ∃ x : Int, e = .returned (.int .i64 x) ∧ x ∈ li ∧ Drawn W0 w g vb xs w' := by
 go_enter Tryz.func64, Tryz.ntmps64
 go_wp2_with fail
 refine (below_any W0 w g vb xs li.length (by omega) (by omega) hs hby hx hB hg hc).mono ?_
 rintro e w1 ⟨x, rfl, x0, x1, hd⟩
 obtain ⟨k, rfl⟩ := Int.eq_ofNat_of_zero_le x0
 have hk : k < li.length := by omega
 have hgl : gl < w.heap.size := (Array.getElem?_eq_some_iff.1 hl).1
 obtain ⟨y, hy⟩ : ∃ y, li[k]? = some y := ⟨li[k], by simp⟩
 have hcell : w1.cell? ⟨gl, k, none⟩ = some (.int .i64 y) := by
  rw [cell_of_row w1 gl k _ 3 (0, 0) (by rw [hd.apart.block gl hgl (by omega)]; exact hl)]
  simp [is, hy]
 have HY : Hid (li[k]? = some y) := hy
 clear hy hl
 go_wp2
 go_ret
 exact ⟨_, rfl, List.mem_of_getElem? HY.out, hd⟩
set_option maxRecDepth 1000000 in
theorem str_any (W0 w : World) (g : Nat) (vb : Value) (xs : List Int) (gl : Nat) (li : List ByteArray) (hl : w.heap[gl]? = some (.cells (ss li).toArray 9 (0, 0))) (hne : gl ≠ g) (hli : 1 ≤ li.length) (hl2 : li.length ≤ 1000) (hs : Sl W0 vb (bs xs)) (hby : Byt xs) (hx : xs.length ≤ 140737488355328) (hB : Below W0.heap.size W0 w) (hg : W0.heap.size ≤ g) (hc : Cur w g vb xs.length) :
  Calls Tryz.prog 85 #[.pointer (some ⟨g, 0, none⟩), .slice (some ⟨gl, 0, none⟩) li.length li.length] w fun e w' => ∃ x : ByteArray, e = .returned (.string x) ∧ x ∈ li ∧ Drawn W0 w g vb xs w' := by
 go_enter Tryz.func85, Tryz.ntmps85
 go_wp2_with fail
 refine (below_any W0 w g vb xs li.length (by omega) (by omega) hs hby hx hB hg hc).mono ?_
 rintro e w1 ⟨x, rfl, x0, x1, hd⟩
 obtain ⟨k, rfl⟩ := Int.eq_ofNat_of_zero_le x0
 have hk : k < li.length := by omega
 have hgl : gl < w.heap.size := (Array.getElem?_eq_some_iff.1 hl).1
 obtain ⟨y, hy⟩ : ∃ y, li[k]? = some y := ⟨li[k], by simp⟩
 have hcell : w1.cell? ⟨gl, k, none⟩ = some (.string y) := by
  rw [cell_of_row w1 gl k _ 9 (0, 0) (by rw [hd.apart.block gl hgl (by omega)]; exact hl)]
  simp [ss, hy]
 have HY : Hid (li[k]? = some y) := hy
 clear hy hl
 go_wp2
 go_ret
 exact ⟨_, rfl, List.mem_of_getElem? HY.out, hd⟩
theorem same_true (w : World) (v1 v2 : Value) (l : List ByteArray) (h1 : Sl w v1 (ss l)) (h2 : Sl w v2 (ss l)) (hx : l.length ≤ 1000000000000) :
  Calls Tryz.prog 12 #[v1, v2] w fun e w' => e = .returned (.bool true) ∧ (∀ B, Below B w w') ∧ w'.heap.size = w.heap.size := by
 obtain ⟨ao, cap, rfl, hc1, _, hr1⟩ := h1
 obtain ⟨bo, cap2, rfl, hc2, _, hr2⟩ := h2
 rw [ss_len] at hr1 hr2 hc1 hc2
 rw [ss_len]
 go_enter Tryz.func12, Tryz.ntmps12
 go_wp2
 go_loopw [5] (fun i wr => ∃ k n : Nat, k ≤ l.length ∧ i = .int .i64 k ∧ wr = w.drewN n) (fun i _ => l.length - (intOf i).toNat)
 case atStart => exact ⟨0, 0, Nat.zero_le _, rfl, rfl⟩
 case round =>
  obtain ⟨k, n, hk, rfl, rfl⟩ := hrel
  by_cases hlt : k < l.length
  ·obtain ⟨b, off, s, rfl, hx0, hcell⟩ := Sl.strAt hr1 rfl hlt
   obtain ⟨b2, off2, s2, rfl, hy0, hcell2⟩ := Sl.strAt hr2 rfl hlt
   rw [hx0] at hy0
   simp only [Option.some.injEq] at hy0
   subst hy0
   clear hx0 hr1 hr2
   go_wp2
   go_quiet (fail)
   go_wp2
   go_roundw
   case rel => exact ⟨k + 1, n + nq, by omega, by go_num, rfl⟩
   case measure => simp [intOf]; omega
  ·go_wp2
   go_ret
   exact ⟨rfl, fun B => below_drewN (Below.refl _ _) n, rfl⟩
theorem one_byte (x : Int) : ∀ u ∈ [Value.int .u8 x], u.oneCell' = true := by
 intro u hu
 rw [List.mem_singleton] at hu
 rw [hu]
 rfl
theorem one_str (s : ByteArray) : ∀ u ∈ [Value.string s], u.oneCell' = true := by
 intro u hu
 rw [List.mem_singleton] at hu
 rw [hu]
 rfl
theorem Own.emptyB (w : World) (lo : Nat) (h : lo ≤ w.heap.size) : Own (w.alloc (.cells #[] 5)) lo (w.alloc (.cells #[] 5)).heap.size 5 (.slice (some ⟨w.heap.size, 0, none⟩) 0 0) (bs []) :=
 Own.of (World.ownsRow_lit w #[] 0 h (Nat.zero_le _) rfl)
theorem Own.emptyS (w : World) (lo : Nat) (h : lo ≤ w.heap.size) : Own (w.alloc (.cells #[] 9)) lo (w.alloc (.cells #[] 9)).heap.size 9 (.slice (some ⟨w.heap.size, 0, none⟩) 0 0) (ss []) :=
 Own.of (World.ownsRow_lit w #[] 0 h (Nat.zero_le _) rfl)
theorem Drawn.on {W0 w w1 w' : World} {g : Nat} {vb : Value} {xs : List Int} (h : Drawn W0 w g vb xs w1) (hg : W0.heap.size ≤ g) (hgw : g < w.heap.size) (hb : Below w.heap.size w1 w') : Drawn W0 w g vb xs w' :=
 ⟨h.cur.later hb hgw, h.apart.on hb, h.below.trans (hb.mono (by omega))⟩
theorem Drawn.and {W0 w w1 w2 : World} {g : Nat} {vb : Value} {xs : List Int} (h : Drawn W0 w g vb xs w1) (k : Drawn W0 w1 g vb xs w2) : Drawn W0 w g vb xs w2 :=
 ⟨k.cur, h.apart.trans k.apart, k.below⟩
theorem Drawn.refl {W0 w : World} {g : Nat} {vb : Value} {xs : List Int} (hB : Below W0.heap.size W0 w) (hc : Cur w g vb xs.length) : Drawn W0 w g vb xs w :=
 ⟨hc, Apart.refl _ _ _, hB⟩
theorem Own.drawn {W0 w w' : World} {g lo hi : Nat} {vb : Value} {xs : List Int} {e : TypeId} {v : Value} {cs : List Value} (h : Own w lo hi e v cs) (hd : Drawn W0 w g vb xs w') (hgl : g < lo ∨ hi ≤ g) (hh : hi ≤ w.heap.size) : Own w' lo hi e v cs :=
 h.apart hd.apart (by omega) hh
theorem lit_block (w : World) (cs : Array Value) (t : TypeId) : (w.alloc (.cells cs t)).heap[w.heap.size]? = some (.cells cs t (0, 0)) := heap_alloc_new w _
theorem mask30 (x : Int) : 0 ≤ bits .and .i64 x 1073741823 ∧ bits .and .i64 x 1073741823 ≤ 1073741823 := by
 have h : ∀ a : BitVec 64, (a &&& (1073741823#64)).toNat ≤ 1073741823 := fun a => by rw [BitVec.toNat_and]; exact Nat.and_le_right
 have e : bits .and .i64 x 1073741823 = IntKind.i64.wrap ((BitVec.ofInt 64 x &&& 1073741823#64).toNat : Int) := rfl
 rw [e]
 have hb := h (BitVec.ofInt 64 x)
 rw [IntKind.wrap_i64]
 omega
set_option maxRecDepth 1000000 in
theorem new_any (w : World) (vb : Value) (xs : List Int) (hs : Sl w vb (bs xs)) (hby : Byt xs) (hx : xs.length ≤ 140737488355328) :
  Calls Tryz.prog 37 #[vb] w fun e w' => e = .returned (.pointer (some ⟨w.heap.size, 0, none⟩)) ∧ Drawn w w w.heap.size vb xs w' := by
 obtain ⟨ao, cap, rfl, hc1, _, hr1⟩ := hs
 rw [bs_len] at hr1 hc1
 rw [bs_len]
 go_enter Tryz.func37, Tryz.ntmps37
 go_wp2
 go_loop [3, 4] (fun hh i => ∃ (k : Nat) (h : Int), k ≤ xs.length ∧ i = .int .i64 k ∧ hh = .int .i64 h ∧ 0 ≤ h ∧ h ≤ 1000000000000000) (fun _ i => xs.length - (intOf i).toNat)
 case atStart => exact ⟨0, 372372 + (xs.length : Int), Nat.zero_le _, rfl, rfl, by omega, by omega⟩
 case round =>
  obtain ⟨k, h, hk, rfl, rfl, h0, h1⟩ := hrel
  by_cases hlt : k < xs.length
  ·have hd1 : decide ((k : Int) < (xs.length : Int)) = true := by simp; omega
   by_cases h4 : (k : Int) < 4000
   ·have hd2 : decide ((k : Int) < 4000) = true := by simpa using h4
    obtain ⟨b, off, c, rfl, hx0, hcell⟩ := Sl.byteAt hr1 rfl hlt
    have hcb := hby.at hx0
    clear hx0 hr1 hby
    go_wp2
    go_round
    case rel => exact ⟨k + 1, _, by omega, by go_num, rfl, (mask30 _).1, by have := (mask30 (h * 137 + c + 11)).2; omega⟩
    case measure => simp [intOf]; omega
   ·have hd2 : decide ((k : Int) < 4000) = false := by simpa using h4
    clear hr1
    go_wp2
    go_ret
    exact ⟨rfl, ⟨⟨0, h, lit_block _ _ _, Nat.zero_le _⟩, (Apart.refl _ _ _).on ((Below.refl _ _).alloc (Nat.le_refl _) _), (Below.refl _ _).alloc (Nat.le_refl _) _⟩⟩
  ·have hd1 : decide ((k : Int) < (xs.length : Int)) = false := by simp; omega
   clear hr1
   go_wp2
   go_ret
   exact ⟨rfl, ⟨⟨0, h, lit_block _ _ _, Nat.zero_le _⟩, (Apart.refl _ _ _).on ((Below.refl _ _).alloc (Nat.le_refl _) _), (Below.refl _ _).alloc (Nat.le_refl _) _⟩⟩
theorem big_no (w : World) (ao : Option Addr) (n cap : Nat) (h : ¬ 1048576 < n) : Calls Tryz.prog 8 #[.slice ao n cap] w fun e w' => e = .returned (.bool false) ∧ w = w' := by
 have hd : decide ((1048576 : Int) < (n : Int)) = false := by simp; omega
 go_enter Tryz.func8, Tryz.ntmps8
 go_wp2
 go_ret
 exact ⟨rfl, rfl⟩
theorem big_yes (w : World) (ao : Option Addr) (n cap : Nat) (h : 1048576 < n) : Calls Tryz.prog 8 #[.slice ao n cap] w fun e w' => e = .returned (.bool true) ∧ w = w' := by
 have hd : decide ((1048576 : Int) < (n : Int)) = true := by simp; omega
 go_enter Tryz.func8, Tryz.ntmps8
 go_wp2
 go_ret
 exact ⟨rfl, rfl⟩
end Go.Proofs.YtchonoonclllbaaGreatDoor.Draw
namespace Go.Proofs.YtchonoonclllbaaGreatDoor.Tr
open Go.RowKit Mem Laws Bytes Sha Draw
def four6 : List ByteArray := [⟨#[]⟩, ⟨#[97]⟩, ⟨#[98]⟩, ⟨#[120, 121, 122]⟩]
theorem four6_size : ∀ s ∈ four6, s.size ≤ 3 := by decide
set_option maxRecDepth 1000000 in
theorem list_any (W0 w : World) (g : Nat) (vb : Value) (xs : List Int) (hs : Sl W0 vb (bs xs)) (hby : Byt xs) (hx : xs.length ≤ 140737488355328) (hB : Below W0.heap.size W0 w) (hg : W0.heap.size ≤ g) (hc : Cur w g vb xs.length) :
  Calls Tryz.prog 86 #[.pointer (some ⟨g, 0, none⟩)] w fun e w' => ∃ (v' : Value) (l : List ByteArray), e = .returned v' ∧ l.length ≤ 8 ∧ (∀ s ∈ l, s.size ≤ 3) ∧ Own w' w.heap.size w'.heap.size 9 v' (ss l) ∧ Drawn W0 w g vb xs w' := by
 obtain ⟨i0, hi, hz0, hz1, hz2⟩ := info_parts info9t
 have hgw := hc.lt
 have hd0 : Drawn W0 w g vb xs (w.alloc (.cells #[] 9)) := (Drawn.refl hB hc).on hg hgw ((Below.refl _ _).alloc (Nat.le_refl _) _)
 have ho0 := emptyT w w.heap.size (Nat.le_refl _)
 have hd00 : ∀ o, Drawn W0 w g vb xs ((w.alloc (.cells #[] 9)).alloc o) := fun o => hd0.on hg hgw ((Below.refl _ _).alloc (by simp) _)
 have ho00 : ∀ o, Own ((w.alloc (.cells #[] 9)).alloc o) w.heap.size ((w.alloc (.cells #[] 9)).alloc o).heap.size 9 _ (ss []) := fun o => ho0.alloc o
 go_enter Tryz.func86, Tryz.ntmps86
 go_wp2_with fail
 refine (int_any W0 _ g vb xs (w.heap.size + 1) [0, 1, 2, 3, 4, 5, 7, 8, 6] (by rw [← World.size_alloc w (.cells #[] 9)]; exact lit_block _ _ _) (by omega) (by simp) (by simp) hs hby hx (hd00 _).below hg (hd00 _).cur).mono ?_
 rintro e w1 ⟨x, rfl, xm, hd1⟩
 have hx8 : 0 ≤ x ∧ x ≤ 8 := by simp only [List.mem_cons, List.not_mem_nil, or_false] at xm; omega
 obtain ⟨n, rfl⟩ := Int.eq_ofNat_of_zero_le hx8.1
 have ho1 : Own w1 w.heap.size w1.heap.size 9 _ (ss []) := (Own.drawn (ho00 _) hd1 (.inl hgw) (Nat.le_refl _)).mono (Nat.le_refl _) hd1.apart.size
 have hd2 := (hd00 _).and hd1
 have hn8 : n ≤ 8 := by omega
 clear hd0 ho0 hd1 hd00 ho00 xm hx8
 go_wp2
 go_loopw [3, 4] (fun out i wr => ∃ (k : Nat) (l : List ByteArray), k ≤ 8 ∧ i = .int .i64 k ∧ l.length + k ≤ 8 ∧ (∀ s ∈ l, s.size ≤ 3) ∧ Own wr w.heap.size wr.heap.size 9 out (ss l) ∧ Drawn W0 w g vb xs wr) (fun _ i _ => (intOf i).toNat)
 case atStart => exact ⟨n, [], by omega, rfl, by simp; omega, fun s hs => (by cases hs), ho1, hd2⟩
 case round =>
  obtain ⟨k, l, hk, rfl, hll, hls, ho, hd⟩ := hrel
  have HY : Hid (∀ s ∈ l, s.size ≤ 3) := hls
  clear hls ho1 hd2
  by_cases hlt : 0 < k
  ·have hd3 : ∀ o, Drawn W0 w g vb xs (wr.alloc o) := fun o => hd.on hg hgw ((Below.refl _ _).alloc hd.apart.size _)
   have hgr : g < wr.heap.size := hd.cur.lt
   go_wp2_with fail
   refine (str_any W0 _ g vb xs wr.heap.size four6 (lit_block _ _ _) (by omega) (by decide) (by decide) hs hby hx (hd3 _).below hg (hd3 _).cur).mono ?_
   rintro e w2 ⟨s, rfl, hsm, hd4⟩
   have hsz := four6_size s hsm
   have ho2 : Own w2 w.heap.size w2.heap.size 9 _ (ss l) := (Own.drawn (ho.alloc _) hd4 (.inl hgw) (Nat.le_refl _)).mono (Nat.le_refl _) hd4.apart.size
   have hd5 := (hd3 _).and hd4
   have hsz2 : w.heap.size ≤ w2.heap.size := hd5.apart.size
   have c2 : (ss l).length + 1 ≤ maxLen := by rw [ss_len]; unfold maxLen; omega
   have c3 : ((ss l).length + 1) * 16 ≤ 140737488355328 := by rw [ss_len]; omega
   have c4 : ∀ o, w.heap.size ≤ (w2.alloc o).heap.size := fun o => by simp; omega
   clear hd3 hd4 ho hd
   go_wp2_with (at_builtin; go_must (refine wpl_app _ rfl (.tmp 13) (.tmp 17) 24 rfl 9 i0 (.string ⟨#[]⟩) 16 Tryz.underlying24 hi hz0 hz1 hz2 rfl w.heap.size _ (ss l) rfl (ho2.alloc _) _ rfl [.string s] (Sl.one _ _ _) (oneT _) c2 c3 (c4 _) ?_); intro v3 w3 ho3 hb3 hg3)
   have hd6 := hd5.on hg hgw (((Below.refl _ _).alloc hsz2 _).trans hb3)
   have ho4 : Own w3 w.heap.size w3.heap.size 9 v3 (ss (l ++ [s])) := by rw [ss_app]; exact ho3
   have HN : Hid (∀ z ∈ l ++ [s], z.size ≤ 3) := by
    intro z hz
    rcases List.mem_append.1 hz with hz | hz
    ·exact HY.out z hz
    ·rw [List.mem_singleton] at hz; rw [hz]; exact hsz
   go_roundw
   case rel => exact ⟨k - 1, l ++ [s], by omega, by go_num, by simp; omega, HN.out, ho4, hd6⟩
   case measure => simp [intOf]; omega
  ·go_wp2
   go_ret
   exact ⟨_, l, rfl, by omega, HY.out, ho, hd⟩
end Go.Proofs.YtchonoonclllbaaGreatDoor.Tr

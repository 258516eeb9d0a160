/- Texts in one: HeE, He2, He3, HeO, Lg1, Draw, TrD, He6, He7. -/
import Derived.Test.YtfpaichdkddglaaDoorPk9
import Derived.Test.YtfpaichdkddglaaDoorPk8
import Derived.Test.YtfpaichdkddglaaDoorPk5
import Derived.Test.YtfpaichdkddglaaDoorPk3
import Derived.Test.YtfpaichdkddglaaDoorPk2
import Derived.Laws.StructEq
import Derived.BigQuiet
import Derived.Deep.RegionHeld3
import Derived.Deep.RegionWith
/- Two heads held against each other, as the language does it. -/
namespace Go.Proofs.YtfpaichdkddglaaDoor.He
open Go.RowKit Go.Proofs.YtfpaichdkddglaaDoor.Mem Go.Proofs.YtfpaichdkddglaaDoor.Laws Go.Proofs.YtfpaichdkddglaaDoor.Bytes Go.Proofs.YtfpaichdkddglaaDoor.Sha Go.Proofs.YtfpaichdkddglaaDoor.Tr
set_option linter.unusedVariables false
set_option linter.unusedSimpArgs false

theorem fieldsH : Tryd.prog.underlying 25 = some (.struct (Tryd.prog.fieldsOf 25)) := by kernel_rfl
theorem heldH : Tryd.prog.stoodInHeld 25 = false := by kernel_rfl
theorem guardH : Tryd.prog.eqGuardType Tryd.prog.depth 25 = false := by kernel_rfl
theorem eqHrun (w : World) (a b : Hd) :
    (Op.equalIn 10000 25 (.agg #[.int .i64 a.n, .string a.r]) (.agg #[.int .i64 b.n, .string b.r])).run Tryd.prog w = .ok (eqH a b) w := by
  rw [run_equalIn_struct w 9999 _ _ _ fieldsH heldH]
  simp [Program.fieldsOf, Tryd.underlying25, Op.eqFields, go_sem, run_underlying Tryd.underlying3, run_underlying Tryd.underlying9, Tryd.underlying3, Tryd.underlying9, part]
  unfold eqH
  repeat' split
  all_goals simp_all
theorem eqlH (w : World) (a b : Hd) : (binOp .eql 25 (.agg #[.int .i64 a.n, .string a.r]) (.agg #[.int .i64 b.n, .string b.r])).run Tryd.prog w = .ok (.bool (eqH a b)) w := by
  rw [run_eql_struct, eqHrun]
  rfl
theorem neqH (w : World) (a b : Hd) : (binOp .neq 25 (.agg #[.int .i64 a.n, .string a.r]) (.agg #[.int .i64 b.n, .string b.r])).run Tryd.prog w = .ok (.bool (!eqH a b)) w := by
  rw [run_neq_struct, eqHrun]
  rfl
theorem grdH (w : World) (op : BinOp) (x y : Operand) (xs ys : Array Value) : (eqGuard op 25 x y (.agg xs) (.agg ys)).run Tryd.prog w = .ok () w := run_eqGuard_agg w op 25 x y xs ys guardH
theorem eqH_iff (a b : Hd) : eqH a b = true ↔ a = b := by
  unfold eqH
  simp only [Bool.and_eq_true, beq_iff_eq, ByteArray.toList_eq]
  constructor
  · rintro ⟨h1, h2⟩
    exact Hd.ext' h1 (by apply ByteArray.ext; apply Array.ext'; exact h2)
  · rintro rfl
    exact ⟨rfl, rfl⟩

end Go.Proofs.YtfpaichdkddglaaDoor.He

/- Chapter 10, the laws' helpers: a head's size, its turning, whether two are the same; lists of heads. -/
namespace Go.Proofs.YtfpaichdkddglaaDoor.He
open Go.RowKit Go.Proofs.YtfpaichdkddglaaDoor.Mem Go.Proofs.YtfpaichdkddglaaDoor.Laws Go.Proofs.YtfpaichdkddglaaDoor.Bytes Go.Proofs.YtfpaichdkddglaaDoor.Sha Go.Proofs.YtfpaichdkddglaaDoor.Tr
set_option linter.unusedVariables false
set_option linter.unusedSimpArgs false

theorem keepH {W W' : World} {p : Addr} {x : Value} (h : W.cell? p = some x) (b : Below W.heap.size W W') : W'.cell? p = some x := by
  rw [b.cell (World.block_lt_of_cell? W p h)]; exact h

set_option maxRecDepth 1000000 in
set_option maxHeartbeats 1000000 in
theorem to_head (w : World) (h : Hd) :
    Calls Tryd.prog 16 #[.agg #[.int .i64 h.n, .string h.r]] w fun e w' => e = .returned (.agg #[.int .i64 h.n, .string h.r]) ∧ Below w.heap.size w w' := by
  have HB : Hid (Below w.heap.size w (((w.alloc (.cells #[.int .i64 h.n, .string h.r] 36)).alloc (.cells #[.int .i64 0, .string ⟨#[]⟩] 25)).alloc (.cells #[.int .i64 h.n, .string h.r] 25))) := (((Below.refl _ _).alloc (Nat.le_refl _) _).alloc (by simp) _).alloc (by simp; omega) _
  have HR1 : Hid ((((w.alloc (.cells #[.int .i64 h.n, .string h.r] 36)).alloc (.cells #[.int .i64 0, .string ⟨#[]⟩] 25)).alloc (.cells #[.int .i64 h.n, .string h.r] 25)).heap[w.heap.size + 1]? = some (.cells #[.int .i64 0, .string ⟨#[]⟩] 25 (0, 0))) := by
    show _ = _
    rw [heap_alloc_old _ _ (by simp)]
    have := heap_alloc_new (w.alloc (.cells #[.int .i64 h.n, .string h.r] 36)) (.cells #[.int .i64 0, .string ⟨#[]⟩] 25)
    simpa using this
  have HR2 : Hid ((((w.alloc (.cells #[.int .i64 h.n, .string h.r] 36)).alloc (.cells #[.int .i64 0, .string ⟨#[]⟩] 25)).alloc (.cells #[.int .i64 h.n, .string h.r] 25)).heap[w.heap.size + 1 + 1]? = some (.cells (hc h) 25 (0, 0))) := by
    show _ = _
    have := heap_alloc_new ((w.alloc (.cells #[.int .i64 h.n, .string h.r] 36)).alloc (.cells #[.int .i64 0, .string ⟨#[]⟩] 25)) (.cells #[.int .i64 h.n, .string h.r] 25)
    simpa [hc] using this
  go_enter Tryd.func16, Tryd.ntmps16
  go_wp2_with (first | (refine wpList_load_row rfl 25 _ rfl (w.heap.size + 1 + 1) rfl 25 (hc h) (0, 0) _ HR2.out Tryd.underlying25 rfl (sizeH h) ?_) | (refine wpList_store_row rfl 25 _ _ rfl (w.heap.size + 1) (hc h) rfl rfl 25 _ HR1.out (sizeH h) rfl (oneH h) ?_))
  exact bodyPost_ret (v := .agg (hc h)) (results_cell_row rfl _ _ (w.heap.size + 1) 25 _ (0, 0) _ rfl (setRow_heap _ _ _ _ _ (0, 0) HR1.out) Tryd.underlying25 rfl (sizeH h)) rfl ⟨rfl, below_setRow HB.out (by omega) _⟩

set_option maxRecDepth 1000000 in
set_option maxHeartbeats 1000000 in
theorem sz_head (w : World) (n : Hd) (left : Int) (hp : n.r.size ≤ 9223372036854775807) (h0 : 0 ≤ left) (h1 : left ≤ 1048576) :
    Calls Tryd.prog 13 #[.agg #[.int .i64 n.n, .string n.r], .int .i64 left] w fun e w' => e = .returned (.int .i64 (if left - n.r.size < 0 then -1 else left - n.r.size)) ∧ Below w.heap.size w w' := by
  have HB : Hid (Below w.heap.size w (w.alloc (.cells #[.int .i64 n.n, .string n.r] 36))) := (Below.refl _ _).alloc (Nat.le_refl _) _
  by_cases hb : left - (n.r.size : Int) < 0
  · have HN : Hid ((if left - n.r.size < 0 then -1 else left - n.r.size) = (-1 : Int)) := by show _ = _; rw [if_pos hb]
    go_enter Tryd.func13, Tryd.ntmps13
    go_wp2
    go_ret
    exact ⟨by first | rfl | (rw [HN.out]; rfl), HB.out⟩
  · have HN : Hid ((if left - n.r.size < 0 then -1 else left - n.r.size) = left - n.r.size) := by show _ = _; rw [if_neg hb]
    go_enter Tryd.func13, Tryd.ntmps13
    go_wp2
    go_ret
    exact ⟨by first | rfl | (rw [HN.out]; rfl), HB.out⟩

theorem infoH : (Tryd.prog.info? 25).map (fun i => (i.zero, i.size, i.bytes)) = some (some (.agg #[.int .i64 0, .string ⟨#[]⟩]), 2, 24) := by kernel_rfl

set_option maxRecDepth 1000000 in
set_option maxHeartbeats 1000000 in
theorem eq_head (w : World) (h : Hd) :
    Calls Tryd.prog 25 #[.agg #[.int .i64 h.n, .string h.r], .agg #[.int .i64 h.n, .string h.r]] w fun e w' => e = .returned (.bool true) ∧ Below w.heap.size w w' := by
  have HB : Hid (Below w.heap.size w ((w.alloc (.cells #[.int .i64 h.n, .string h.r] 25)).alloc (.cells #[.int .i64 h.n, .string h.r] 25))) := ((Below.refl _ _).alloc (Nat.le_refl _) _).alloc (by simp) _
  have n1 : (h.r.toList == h.r.toList) = true := by simp
  have n2 : (h.n != h.n) = false := by simp
  go_enter Tryd.func25, Tryd.ntmps25
  go_wp2
  go_ret
  exact ⟨rfl, HB.out⟩

end Go.Proofs.YtfpaichdkddglaaDoor.He

/- Chapter 10, the specification's side: heads that are right, signed, the best. -/
namespace Go.Proofs.YtfpaichdkddglaaDoor.He
open Go.RowKit Go.Proofs.YtfpaichdkddglaaDoor.Mem Go.Proofs.YtfpaichdkddglaaDoor.Laws Go.Proofs.YtfpaichdkddglaaDoor.Bytes Go.Proofs.YtfpaichdkddglaaDoor.Sha Go.Proofs.YtfpaichdkddglaaDoor.Tr
set_option linter.unusedVariables false
set_option linter.unusedSimpArgs false

set_option maxRecDepth 1000000 in
set_option maxHeartbeats 1000000 in
theorem ok_spec (w : World) (h : Hd) : Calls Tryd.prog 9 #[.agg #[.int .i64 h.n, .string h.r]] w fun e w' => e = .returned (.bool (okH h)) ∧ Below w.heap.size w w' := by
  have HB : Hid (Below w.heap.size w (w.alloc (.cells #[.int .i64 h.n, .string h.r] 25))) := (Below.refl _ _).alloc (Nat.le_refl _) _
  by_cases hn : 0 ≤ h.n ∧ h.n ≤ 200
  · have q := in6t (w.alloc (.cells #[.int .i64 h.n, .string h.r] 25)) hn
    obtain ⟨t, ht⟩ : ∃ t, ((h.r.size : Int) == 32) = t := ⟨_, rfl⟩
    have HN : Hid (okH h = t) := by
      show _ = _
      rw [← ht]
      unfold okH
      by_cases h32 : h.r.size = 32
      · rw [decide_eq_true ⟨hn, h32⟩, h32]; rfl
      · rw [decide_eq_false (fun c => h32 c.2)]
        exact (beq_eq_false_iff_ne.2 (by omega)).symm
    clear hn
    go_enter Tryd.func9, Tryd.ntmps9
    go_wp2_with fail
    refine q.mono ?_
    rintro e w1 ⟨rfl, rfl⟩
    go_wp2
    go_ret
    exact ⟨by rw [HN.out]; rfl, HB.out⟩
  · have q := in6f (w.alloc (.cells #[.int .i64 h.n, .string h.r] 25)) hn
    have HN : Hid (okH h = false) := by show _ = _; unfold okH; rw [decide_eq_false (fun c => hn c.1)]
    clear hn
    go_enter Tryd.func9, Tryd.ntmps9
    go_wp2_with fail
    refine q.mono ?_
    rintro e w1 ⟨rfl, rfl⟩
    go_wp2
    go_ret
    exact ⟨by rw [HN.out]; rfl, HB.out⟩

theorem signed_snoc {t : List Hd} {k : Nat} {x : Hd} (hx : t[k]? = some x) (h : Hd) : signed (t.take (k + 1)) h = (signed (t.take k) h || eqH x h) := by
  unfold signed
  rw [List.take_add_one, hx]
  simp
theorem signed_yes {t : List Hd} {k : Nat} {x h : Hd} (hx : t[k]? = some x) (he : eqH x h = true) : signed t h = true := by
  unfold signed
  rw [List.any_eq_true]
  exact ⟨x, List.mem_of_getElem? hx, he⟩

theorem bestF_snoc (b : Hd) (r : List Hd) (x : Hd) : bestF b (r ++ [x]) = if (bestF b r).n < x.n then x else bestF b r := by
  induction r generalizing b with
  | nil => rfl
  | cons y r ih =>
    simp only [List.cons_append, bestF]
    split
    · exact ih y
    · exact ih b

end Go.Proofs.YtfpaichdkddglaaDoor.He

/- Chapter 10: the head of texts (the specification's side). -/
namespace Go.Proofs.YtfpaichdkddglaaDoor.He
open Go.RowKit Go.Proofs.YtfpaichdkddglaaDoor.Mem Go.Proofs.YtfpaichdkddglaaDoor.Laws Go.Proofs.YtfpaichdkddglaaDoor.Bytes Go.Proofs.YtfpaichdkddglaaDoor.Sha Go.Proofs.YtfpaichdkddglaaDoor.Tr
set_option linter.unusedVariables false
set_option linter.unusedSimpArgs false

set_option maxRecDepth 1000000 in
set_option maxHeartbeats 1000000 in
theorem headOf_spec (w : World) (v : Value) (l : List ByteArray) (h : Sl w v (ss l)) (hl : l.length ≤ 1000000000000) (hz : ∀ s ∈ l, s.size ≤ 10000000000) :
    Calls Tryd.prog 29 #[v] w fun e w' => e = .returned (.agg #[.int .i64 (headOf l).n, .string (headOf l).r]) ∧ Below w.heap.size w w' := by
  have HR : Hid ((w.alloc (.cells #[.int .i64 0, .string ⟨#[]⟩] 25)).heap[w.heap.size]? = some (.cells (hc hd0) 25 (0, 0))) := heap_alloc_new w _
  have HB : Hid (Below w.heap.size w (w.alloc (.cells #[.int .i64 0, .string ⟨#[]⟩] 25))) := (Below.refl _ _).alloc (Nat.le_refl _) _
  by_cases h2 : l.length ≤ 200
  · have q := root_any l.length l (Nat.le_refl _) (w.alloc (.cells #[.int .i64 0, .string ⟨#[]⟩] 25)) v (h.later HB.out) (by omega) hz
    obtain ⟨M, hM⟩ : ∃ M, headOf l = M := ⟨_, rfl⟩
    have hM2 : M = ⟨l.length, root l⟩ := by rw [← hM]; unfold headOf; rw [if_pos h2]
    obtain ⟨ao, cap, rfl, hcap, _⟩ := h
    have d2 : ¬ (200 : Int) < (l.length : Int) := by omega
    obtain ⟨x, hx⟩ : ∃ x, root l = x := ⟨_, rfl⟩
    rw [hx] at q hM2
    rw [hM, hM2]
    rw [ss_len] at *
    clear hx hM hM2 hz
    go_enter Tryd.func29, Tryd.ntmps29
    go_wp2_with fail
    refine q.mono ?_
    rintro e w1 ⟨rfl, b1⟩
    have R1 := rowKeep HR.out b1
    have B1 : Below w.heap.size w w1 := HB.out.trans (b1.mono HB.out.size)
    clear q HR b1
    go_wp2_with (refine wpList_store_row rfl 25 _ _ rfl w.heap.size (hc (⟨(l.length : Int), x⟩ : Hd)) rfl rfl 25 _ R1 (sizeH (⟨(l.length : Int), x⟩ : Hd)) rfl (oneH (⟨(l.length : Int), x⟩ : Hd)) ?_)
    exact bodyPost_ret (v := .agg (hc ⟨(l.length : Int), x⟩)) (results_cell_row rfl _ _ w.heap.size 25 _ (0, 0) _ rfl (setRow_heap _ _ _ _ _ (0, 0) R1) Tryd.underlying25 rfl (sizeH _)) rfl ⟨rfl, below_setRow B1 (Nat.le_refl _) _⟩
  · have d2 : (200 : Int) < (l.length : Int) := by omega
    have hM : headOf l = hd0 := by unfold headOf; rw [if_neg h2]
    rw [hM]
    obtain ⟨ao, cap, rfl, hcap, _⟩ := h
    rw [ss_len]
    clear hz hM
    go_enter Tryd.func29, Tryd.ntmps29
    go_wp2_with (refine wpList_store_row rfl 25 _ _ rfl w.heap.size (hc hd0) rfl rfl 25 _ HR.out (sizeH hd0) rfl (oneH hd0) ?_)
    exact bodyPost_ret (v := .agg (hc hd0)) (results_cell_row rfl _ _ w.heap.size 25 _ (0, 0) _ rfl (setRow_heap _ _ _ _ _ (0, 0) HR.out) Tryd.underlying25 rfl (sizeH hd0)) rfl ⟨rfl, below_setRow HB.out (Nat.le_refl _) _⟩

theorem headOf_size (l : List ByteArray) : (headOf l).r.size ≤ 32 := by
  unfold headOf
  split
  · simp only [root_size]; exact Nat.le_refl _
  · exact Nat.zero_le _

end Go.Proofs.YtfpaichdkddglaaDoor.He

/- Chapter 11: logs as cells; the specification's side: a new log, what is right, a copy. -/
namespace Go.Proofs.YtfpaichdkddglaaDoor.Lg
open Go.RowKit Go.Proofs.YtfpaichdkddglaaDoor.Mem Go.Proofs.YtfpaichdkddglaaDoor.Laws Go.Proofs.YtfpaichdkddglaaDoor.Bytes Go.Proofs.YtfpaichdkddglaaDoor.Sha Go.Proofs.YtfpaichdkddglaaDoor.Tr Go.Proofs.YtfpaichdkddglaaDoor.He
set_option linter.unusedVariables false
set_option linter.unusedSimpArgs false

/-- a log's cells: its texts, and its head -/
def lc (v : Value) (h : Hd) : Array Value := #[v, .int .i64 h.n, .string h.r]

theorem oneL {v : Value} (h : Hd) (hv : v.oneCell' = true) : (lc v h).all (·.oneCell') = true := by
  simp [lc, Value.oneCell']
  exact hv
/-- what LogOk answers -/
def logOk (l : List ByteArray) (h : Hd) : Bool := decide (l.length ≤ 200) && eqH h (headOf l)
theorem logOk_yes {l : List ByteArray} {h : Hd} (hk : logOk l h = true) : l.length ≤ 200 ∧ h = headOf l := by
  unfold logOk at hk
  simp only [Bool.and_eq_true, decide_eq_true_eq] at hk
  exact ⟨hk.1, (eqH_iff _ _).1 hk.2⟩
theorem logOk_of {l : List ByteArray} (hl : l.length ≤ 200) : logOk l (headOf l) = true := by
  unfold logOk
  simp only [Bool.and_eq_true, decide_eq_true_eq]
  exact ⟨hl, (eqH_iff _ _).2 rfl⟩

end Go.Proofs.YtfpaichdkddglaaDoor.Lg

/- Contracts of the specification's draws: what is drawn is some number within its bounds, some bytes, some texts of a list; the cursor alone is written. -/
namespace Go.Proofs.YtfpaichdkddglaaDoor.Draw
open Go.RowKit Go.Proofs.YtfpaichdkddglaaDoor.Mem Go.Proofs.YtfpaichdkddglaaDoor.Laws Go.Proofs.YtfpaichdkddglaaDoor.Bytes
set_option linter.unusedVariables false

/-- A cursor at block g over the bytes that vb reads. -/
def Cur (w : World) (g : Nat) (vb : Value) (n : Nat) : Prop :=
  ∃ (i : Nat) (h : Int), w.heap[g]? = some (.cells #[vb, .int .i64 (i : Int), .int .i64 h] 69 (0, 0)) ∧ i ≤ n

theorem Apart.put {a w : World} {g : Nat} (h : Apart g (g + 1) a w) (j : Nat) (u : Value) : Apart g (g + 1) a (w.setCell ⟨g, j, none⟩ u) :=
  Apart.setCell (p := ⟨g, j, none⟩) h (Nat.le_refl g) (Nat.lt_succ_self g) u

theorem info9 : (Tryd.prog.info? 9).map (fun i => (i.zero, i.size, i.bytes)) = some (some (.string ⟨#[]⟩), 1, 16) := by kernel_rfl

theorem and255 (x : Int) : 0 ≤ bits .and .i64 x 255 ∧ bits .and .i64 x 255 ≤ 255 := by
  have h : ∀ a : BitVec 64, (a &&& (255#64)).toNat ≤ 255 := fun a => by rw [BitVec.toNat_and]; exact Nat.and_le_right
  have e : bits .and .i64 x 255 = IntKind.i64.wrap ((BitVec.ofInt 64 x &&& 255#64).toNat : Int) := rfl
  rw [e]
  have hb := h (BitVec.ofInt 64 x)
  rw [IntKind.wrap_i64]
  omega

set_option maxRecDepth 1000000 in
set_option maxHeartbeats 1000000 in
theorem byte_any (W0 w : World) (g : Nat) (vb : Value) (xs : List Int) (hs : Sl W0 vb (bs xs)) (hby : Byt xs) (hx : xs.length ≤ 140737488355328) (hB : Below W0.heap.size W0 w) (hg : W0.heap.size ≤ g) (hc : Cur w g vb xs.length) :
    Calls Tryd.prog 69 #[.pointer (some ⟨g, 0, none⟩)] w fun e w' => ∃ x : Int, e = .returned (.int .i64 x) ∧ 0 ≤ x ∧ x ≤ 255 ∧ Cur w' g vb xs.length ∧ Apart g (g + 1) w w' := by
  obtain ⟨i, h, hblk, hi⟩ := hc
  have hs' := hs.later hB
  obtain ⟨ao, cap, rfl, hcp, _, hr⟩ := hs'
  have c0 := cell_of_row w g 0 _ _ _ hblk
  have c1 := cell_of_row w g 1 _ _ _ hblk
  have c2 := cell_of_row w g 2 _ _ _ hblk
  have f1 := frozen_of_row w g 1 _ _ hblk
  have f2 := frozen_of_row w g 2 _ _ hblk
  rw [bs_len] at hr hcp c0 hblk
  rw [bs_len]
  simp at c0 c1 c2
  have hset : ∀ (h2 : Int) (k : Nat), (w.setCell ⟨g, 2, none⟩ (.int .i64 h2)).heap[g]? = some (.cells #[.slice ao xs.length cap, .int .i64 (i : Int), .int .i64 h2] 69 (0, 0)) := fun h2 _ => heap_setCell_same w g 2 _ _ _ hblk
  have HS : Hid (∀ (h2 : Int), (w.setCell ⟨g, 2, none⟩ (.int .i64 h2)).heap[g]? = some (.cells #[.slice ao xs.length cap, .int .i64 (i : Int), .int .i64 h2] 69 (0, 0))) := fun h2 => hset h2 0
  clear hset hblk
  by_cases hlt : i < xs.length
  · obtain ⟨b, off, c, rfl, hx0, hcell⟩ := Sl.byteAt hr rfl hlt
    have hcb := hby.at hx0
    have hbl : b < W0.heap.size := by
      obtain ⟨ao', cap', he, _, _, hr'⟩ := hs
      rw [bs_len] at he hr'
      simp only [Value.slice.injEq] at he
      obtain ⟨rfl, _, rfl⟩ := he
      obtain ⟨b', off', c', he', _, hcell'⟩ := Sl.byteAt hr' rfl hlt
      simp only [Option.some.injEq, Addr.mk.injEq, and_true] at he'
      obtain ⟨rfl, rfl⟩ := he'
      exact World.block_lt_of_cell? W0 ⟨b, off + i, none⟩ hcell'
    have hbg : ¬ b = g := by omega
    have hgb : ¬ g = b := by omega
    clear hx0 hr hs hby
    go_enter Tryd.func69, Tryd.ntmps69
    go_wp2
    generalize wrap64 (wrap64 (h * 6364136223846793005) + 1442695040888963407) = h2
    go_quiet (fail)
    go_wp2
    go_quiet (fail)
    go_wp2
    go_quiet (fail)
    go_wp2
    go_ret
    have h2b := HS.out h2
    refine ⟨_, rfl, (and255 _).1, (and255 _).2, ⟨i + 1, h2, heap_setCell_same _ g 1 _ _ _ h2b, by omega⟩, ?_⟩
    repeat (first | exact Apart.refl _ _ _ | refine Apart.quiet ?_ _ | refine Apart.put ?_ _ _)
  · clear hr hs hby
    go_enter Tryd.func69, Tryd.ntmps69
    go_wp2
    generalize wrap64 (wrap64 (h * 6364136223846793005) + 1442695040888963407) = h2
    go_quiet (fail)
    go_wp2
    go_quiet (fail)
    go_wp2
    go_ret
    have h2b := HS.out h2
    refine ⟨_, rfl, (and255 _).1, (and255 _).2, ⟨i, h2, h2b, hi⟩, ?_⟩
    repeat (first | exact Apart.refl _ _ _ | refine Apart.quiet ?_ _ | refine Apart.put ?_ _ _)

/-- What a draw leaves of the world: the cursor alone may have turned. -/
structure Drawn (W0 w : World) (g : Nat) (vb : Value) (xs : List Int) (w' : World) : Prop where
  cur : Cur w' g vb xs.length
  apart : Apart g (g + 1) w w'
  below : Below W0.heap.size W0 w'

theorem Drawn.mk' {W0 w w' : World} {g : Nat} {vb : Value} {xs : List Int} (hB : Below W0.heap.size W0 w) (hg : W0.heap.size ≤ g) (hc : Cur w' g vb xs.length) (ha : Apart g (g + 1) w w') : Drawn W0 w g vb xs w' :=
  ⟨hc, ha, hB.trans (ha.below hg hB.size)⟩

/-- The cursor, where a new block was laid. -/
theorem Cur.alloc {w : World} {g : Nat} {vb : Value} {n : Nat} (h : Cur w g vb n) (o : Obj) : Cur (w.alloc o) g vb n := by
  obtain ⟨i, x, hb, hi⟩ := h
  exact ⟨i, x, by rw [Below.heap_alloc _ _ _ (Array.getElem?_eq_some_iff.1 hb).1]; exact hb, hi⟩
theorem Cur.later {w w' : World} {g B : Nat} {vb : Value} {n : Nat} (h : Cur w g vb n) (hb : Below B w w') (hg : g < B) : Cur w' g vb n := by
  obtain ⟨i, x, hh, hi⟩ := h
  exact ⟨i, x, by rw [hb.block g hg]; exact hh, hi⟩
theorem Cur.lt {w : World} {g : Nat} {vb : Value} {n : Nat} (h : Cur w g vb n) : g < w.heap.size := by
  obtain ⟨i, x, hh, hi⟩ := h
  exact (Array.getElem?_eq_some_iff.1 hh).1

theorem byte_d (W0 w : World) (g : Nat) (vb : Value) (xs : List Int) (hs : Sl W0 vb (bs xs)) (hby : Byt xs) (hx : xs.length ≤ 140737488355328) (hB : Below W0.heap.size W0 w) (hg : W0.heap.size ≤ g) (hc : Cur w g vb xs.length) :
    Calls Tryd.prog 69 #[.pointer (some ⟨g, 0, none⟩)] w fun e w' => ∃ x : Int, e = .returned (.int .i64 x) ∧ 0 ≤ x ∧ x ≤ 255 ∧ Drawn W0 w g vb xs w' := by
  refine (byte_any W0 w g vb xs hs hby hx hB hg hc).mono ?_
  rintro e w' ⟨x, rfl, h0, h1, hcur, hap⟩
  exact ⟨x, rfl, h0, h1, Drawn.mk' hB hg hcur hap⟩

set_option maxRecDepth 1000000 in
set_option maxHeartbeats 1000000 in
theorem below_any (W0 w : World) (g : Nat) (vb : Value) (xs : List Int) (n : Int) (hn1 : 1 ≤ n) (hn2 : n ≤ 9223372036854775807) (hs : Sl W0 vb (bs xs)) (hby : Byt xs) (hx : xs.length ≤ 140737488355328) (hB : Below W0.heap.size W0 w) (hg : W0.heap.size ≤ g) (hc : Cur w g vb xs.length) :
    Calls Tryd.prog 51 #[.pointer (some ⟨g, 0, none⟩), .int .i64 n] w fun e w' => ∃ x : Int, e = .returned (.int .i64 x) ∧ 0 ≤ x ∧ x < n ∧ Drawn W0 w g vb xs w' := by
  by_cases hsm : n ≤ 256
  · go_enter Tryd.func51, Tryd.ntmps51
    go_wp2_with fail
    refine (byte_d W0 w g vb xs hs hby hx hB hg hc).mono ?_
    rintro e w1 ⟨x, rfl, h0, h1, hd⟩
    go_wp2
    go_ret
    exact ⟨_, rfl, Int.emod_nonneg _ (by omega), Int.emod_lt_of_pos _ (by omega), hd⟩
  · go_enter Tryd.func51, Tryd.ntmps51
    go_wp2_with fail
    refine (byte_d W0 w g vb xs hs hby hx hB hg hc).mono ?_
    rintro e w1 ⟨x, rfl, x0, x1, hd1⟩
    go_wp2_with fail
    refine (byte_d W0 w1 g vb xs hs hby hx hd1.below hg hd1.cur).mono ?_
    rintro e w2 ⟨y, rfl, y0, y1, hd2⟩
    go_wp2_with fail
    refine (byte_d W0 w2 g vb xs hs hby hx hd2.below hg hd2.cur).mono ?_
    rintro e w3 ⟨z, rfl, z0, z1, hd3⟩
    go_wp2
    go_ret
    exact ⟨_, rfl, Int.emod_nonneg _ (by omega), Int.emod_lt_of_pos _ (by omega), ⟨hd3.cur, Apart.trans hd1.apart (Apart.trans hd2.apart hd3.apart), hd3.below⟩⟩

/-- ints as cells -/
def is (xs : List Int) : List Value := xs.map (Value.int .i64)
theorem is_len (xs : List Int) : (is xs).length = xs.length := by simp [is]

set_option maxRecDepth 1000000 in
set_option maxHeartbeats 1000000 in
/-- l1Int: one of the list. The list lies apart from the cursor. -/
theorem int_any (W0 w : World) (g : Nat) (vb : Value) (xs : List Int) (gl : Nat) (li : List Int) (hl : w.heap[gl]? = some (.cells (is li).toArray 3 (0, 0))) (hne : gl ≠ g) (hli : 1 ≤ li.length) (hl2 : li.length ≤ 1000) (hs : Sl W0 vb (bs xs)) (hby : Byt xs) (hx : xs.length ≤ 140737488355328) (hB : Below W0.heap.size W0 w) (hg : W0.heap.size ≤ g) (hc : Cur w g vb xs.length) :
    Calls Tryd.prog 48 #[.pointer (some ⟨g, 0, none⟩), .slice (some ⟨gl, 0, none⟩) li.length li.length] w fun e w' => ∃ x : Int, e = .returned (.int .i64 x) ∧ x ∈ li ∧ Drawn W0 w g vb xs w' := by
  go_enter Tryd.func48, Tryd.ntmps48
  go_wp2_with fail
  refine (below_any W0 w g vb xs li.length (by omega) (by omega) hs hby hx hB hg hc).mono ?_
  rintro e w1 ⟨x, rfl, x0, x1, hd⟩
  obtain ⟨k, rfl⟩ := Int.eq_ofNat_of_zero_le x0
  have hk : k < li.length := by omega
  have hgl : gl < w.heap.size := (Array.getElem?_eq_some_iff.1 hl).1
  obtain ⟨y, hy⟩ : ∃ y, li[k]? = some y := ⟨li[k], by simp⟩
  have hcell : w1.cell? ⟨gl, k, none⟩ = some (.int .i64 y) := by
    rw [cell_of_row w1 gl k _ 3 (0, 0) (by rw [hd.apart.block gl hgl (by omega)]; exact hl)]
    simp [is, hy]
  have HY : Hid (li[k]? = some y) := hy
  clear hy hl
  go_wp2
  go_ret
  exact ⟨_, rfl, List.mem_of_getElem? HY.out, hd⟩

set_option maxRecDepth 1000000 in
set_option maxHeartbeats 1000000 in
/-- l1Str: one of the list. The list lies apart from the cursor. -/
theorem str_any (W0 w : World) (g : Nat) (vb : Value) (xs : List Int) (gl : Nat) (li : List ByteArray) (hl : w.heap[gl]? = some (.cells (ss li).toArray 9 (0, 0))) (hne : gl ≠ g) (hli : 1 ≤ li.length) (hl2 : li.length ≤ 1000) (hs : Sl W0 vb (bs xs)) (hby : Byt xs) (hx : xs.length ≤ 140737488355328) (hB : Below W0.heap.size W0 w) (hg : W0.heap.size ≤ g) (hc : Cur w g vb xs.length) :
    Calls Tryd.prog 49 #[.pointer (some ⟨g, 0, none⟩), .slice (some ⟨gl, 0, none⟩) li.length li.length] w fun e w' => ∃ x : ByteArray, e = .returned (.string x) ∧ x ∈ li ∧ Drawn W0 w g vb xs w' := by
  go_enter Tryd.func49, Tryd.ntmps49
  go_wp2_with fail
  refine (below_any W0 w g vb xs li.length (by omega) (by omega) hs hby hx hB hg hc).mono ?_
  rintro e w1 ⟨x, rfl, x0, x1, hd⟩
  obtain ⟨k, rfl⟩ := Int.eq_ofNat_of_zero_le x0
  have hk : k < li.length := by omega
  have hgl : gl < w.heap.size := (Array.getElem?_eq_some_iff.1 hl).1
  obtain ⟨y, hy⟩ : ∃ y, li[k]? = some y := ⟨li[k], by simp⟩
  have hcell : w1.cell? ⟨gl, k, none⟩ = some (.string y) := by
    rw [cell_of_row w1 gl k _ 9 (0, 0) (by rw [hd.apart.block gl hgl (by omega)]; exact hl)]
    simp [ss, hy]
  have HY : Hid (li[k]? = some y) := hy
  clear hy hl
  go_wp2
  go_ret
  exact ⟨_, rfl, List.mem_of_getElem? HY.out, hd⟩

set_option maxHeartbeats 400000 in
/-- sameTexts of two that read the same: true; no block turns. -/
theorem same_true (w : World) (v1 v2 : Value) (l : List ByteArray) (h1 : Sl w v1 (ss l)) (h2 : Sl w v2 (ss l)) (hx : l.length ≤ 1000000000000) :
    Calls Tryd.prog 12 #[v1, v2] w fun e w' => e = .returned (.bool true) ∧ (∀ B, Below B w w') ∧ w'.heap.size = w.heap.size := by
  obtain ⟨ao, cap, rfl, hc1, _, hr1⟩ := h1
  obtain ⟨bo, cap2, rfl, hc2, _, hr2⟩ := h2
  rw [ss_len] at hr1 hr2 hc1 hc2
  rw [ss_len]
  go_enter Tryd.func12, Tryd.ntmps12
  go_wp2
  go_loopw [5] (fun i wr => ∃ k n : Nat, k ≤ l.length ∧ i = .int .i64 k ∧ wr = w.drewN n) (fun i _ => l.length - (intOf i).toNat)
  case atStart => exact ⟨0, 0, Nat.zero_le _, rfl, rfl⟩
  case round =>
    obtain ⟨k, n, hk, rfl, rfl⟩ := hrel
    by_cases hlt : k < l.length
    · obtain ⟨b, off, s, rfl, hx0, hcell⟩ := Sl.strAt hr1 rfl hlt
      obtain ⟨b2, off2, s2, rfl, hy0, hcell2⟩ := Sl.strAt hr2 rfl hlt
      rw [hx0] at hy0
      simp only [Option.some.injEq] at hy0
      subst hy0
      clear hx0 hr1 hr2
      go_wp2
      go_quiet (fail)
      go_wp2
      go_roundw
      case rel => exact ⟨k + 1, n + nq, by omega, by go_num, rfl⟩
      case measure => simp [intOf]; omega
    · go_wp2
      go_ret
      exact ⟨rfl, fun B => below_drewN (Below.refl _ _) n, rfl⟩

theorem one_byte (x : Int) : ∀ u ∈ [Value.int .u8 x], u.oneCell' = true := by
  intro u hu
  rw [List.mem_singleton] at hu
  rw [hu]
  rfl

theorem one_str (s : ByteArray) : ∀ u ∈ [Value.string s], u.oneCell' = true := by
  intro u hu
  rw [List.mem_singleton] at hu
  rw [hu]
  rfl

theorem Own.emptyB (w : World) (lo : Nat) (h : lo ≤ w.heap.size) : Own (w.alloc (.cells #[] 5)) lo (w.alloc (.cells #[] 5)).heap.size 5 (.slice (some ⟨w.heap.size, 0, none⟩) 0 0) (bs []) :=
  Own.of (World.ownsRow_lit w #[] 0 h (Nat.zero_le _) rfl)

theorem Own.emptyS (w : World) (lo : Nat) (h : lo ≤ w.heap.size) : Own (w.alloc (.cells #[] 9)) lo (w.alloc (.cells #[] 9)).heap.size 9 (.slice (some ⟨w.heap.size, 0, none⟩) 0 0) (ss []) :=
  Own.of (World.ownsRow_lit w #[] 0 h (Nat.zero_le _) rfl)

/-- A draw, and behind it what lies from the start's end on. -/
theorem Drawn.on {W0 w w1 w' : World} {g : Nat} {vb : Value} {xs : List Int} (h : Drawn W0 w g vb xs w1) (hg : W0.heap.size ≤ g) (hgw : g < w.heap.size) (hb : Below w.heap.size w1 w') : Drawn W0 w g vb xs w' :=
  ⟨h.cur.later hb hgw, h.apart.on hb, h.below.trans (hb.mono (by omega))⟩
theorem Drawn.and {W0 w w1 w2 : World} {g : Nat} {vb : Value} {xs : List Int} (h : Drawn W0 w g vb xs w1) (k : Drawn W0 w1 g vb xs w2) : Drawn W0 w g vb xs w2 :=
  ⟨k.cur, h.apart.trans k.apart, k.below⟩
theorem Drawn.refl {W0 w : World} {g : Nat} {vb : Value} {xs : List Int} (hB : Below W0.heap.size W0 w) (hc : Cur w g vb xs.length) : Drawn W0 w g vb xs w :=
  ⟨hc, Apart.refl _ _ _, hB⟩
/-- What the call owns beside the cursor stays. -/
theorem Own.drawn {W0 w w' : World} {g lo hi : Nat} {vb : Value} {xs : List Int} {e : TypeId} {v : Value} {cs : List Value} (h : Own w lo hi e v cs) (hd : Drawn W0 w g vb xs w') (hgl : g < lo ∨ hi ≤ g) (hh : hi ≤ w.heap.size) : Own w' lo hi e v cs :=
  h.apart hd.apart (by omega) hh

theorem lit_block (w : World) (cs : Array Value) (t : TypeId) : (w.alloc (.cells cs t)).heap[w.heap.size]? = some (.cells cs t (0, 0)) := heap_alloc_new w _

theorem mask30 (x : Int) : 0 ≤ bits .and .i64 x 1073741823 ∧ bits .and .i64 x 1073741823 ≤ 1073741823 := by
  have h : ∀ a : BitVec 64, (a &&& (1073741823#64)).toNat ≤ 1073741823 := fun a => by rw [BitVec.toNat_and]; exact Nat.and_le_right
  have e : bits .and .i64 x 1073741823 = IntKind.i64.wrap ((BitVec.ofInt 64 x &&& 1073741823#64).toNat : Int) := rfl
  rw [e]
  have hb := h (BitVec.ofInt 64 x)
  rw [IntKind.wrap_i64]
  omega

set_option maxRecDepth 1000000 in
set_option maxHeartbeats 1000000 in
/-- l1New: a cursor in a new block. -/
theorem new_any (w : World) (vb : Value) (xs : List Int) (hs : Sl w vb (bs xs)) (hby : Byt xs) (hx : xs.length ≤ 140737488355328) :
    Calls Tryd.prog 27 #[vb] w fun e w' => e = .returned (.pointer (some ⟨w.heap.size, 0, none⟩)) ∧ Drawn w w w.heap.size vb xs w' := by
  obtain ⟨ao, cap, rfl, hc1, _, hr1⟩ := hs
  rw [bs_len] at hr1 hc1
  rw [bs_len]
  go_enter Tryd.func27, Tryd.ntmps27
  go_wp2
  go_loop [3, 4] (fun hh i => ∃ (k : Nat) (h : Int), k ≤ xs.length ∧ i = .int .i64 k ∧ hh = .int .i64 h ∧ 0 ≤ h ∧ h ≤ 1000000000000000) (fun _ i => xs.length - (intOf i).toNat)
  case atStart => exact ⟨0, 372372 + (xs.length : Int), Nat.zero_le _, rfl, rfl, by omega, by omega⟩
  case round =>
    obtain ⟨k, h, hk, rfl, rfl, h0, h1⟩ := hrel
    by_cases hlt : k < xs.length
    · have hd1 : decide ((k : Int) < (xs.length : Int)) = true := by simp; omega
      by_cases h4 : (k : Int) < 4000
      · have hd2 : decide ((k : Int) < 4000) = true := by simpa using h4
        obtain ⟨b, off, c, rfl, hx0, hcell⟩ := Sl.byteAt hr1 rfl hlt
        have hcb := hby.at hx0
        clear hx0 hr1 hby
        go_wp2
        go_round
        case rel => exact ⟨k + 1, _, by omega, by go_num, rfl, (mask30 _).1, by have := (mask30 (h * 137 + c + 11)).2; omega⟩
        case measure => simp [intOf]; omega
      · have hd2 : decide ((k : Int) < 4000) = false := by simpa using h4
        clear hr1
        go_wp2
        go_ret
        exact ⟨rfl, ⟨⟨0, h, lit_block _ _ _, Nat.zero_le _⟩, (Apart.refl _ _ _).on ((Below.refl _ _).alloc (Nat.le_refl _) _), (Below.refl _ _).alloc (Nat.le_refl _) _⟩⟩
    · have hd1 : decide ((k : Int) < (xs.length : Int)) = false := by simp; omega
      clear hr1
      go_wp2
      go_ret
      exact ⟨rfl, ⟨⟨0, h, lit_block _ _ _, Nat.zero_le _⟩, (Apart.refl _ _ _).on ((Below.refl _ _).alloc (Nat.le_refl _) _), (Below.refl _ _).alloc (Nat.le_refl _) _⟩⟩

/-- the texts that l1Texts draws of -/
def five : List ByteArray := [⟨#[]⟩, ⟨#[97]⟩, ⟨#[98, 99]⟩, ⟨#[0, 255]⟩, ⟨#[115, 111, 109, 101, 32, 109, 111, 114, 101, 32, 98, 121, 116, 101, 115]⟩]
theorem five_size : ∀ s ∈ five, s.size ≤ 15 := by decide

theorem big_no (w : World) (ao : Option Addr) (n cap : Nat) (h : ¬ 1048576 < n) : Calls Tryd.prog 6 #[.slice ao n cap] w fun e w' => e = .returned (.bool false) ∧ w = w' := by
  have hd : decide ((1048576 : Int) < (n : Int)) = false := by simp; omega
  go_enter Tryd.func6, Tryd.ntmps6
  go_wp2
  go_ret
  exact ⟨rfl, rfl⟩

theorem big_yes (w : World) (ao : Option Addr) (n cap : Nat) (h : 1048576 < n) : Calls Tryd.prog 6 #[.slice ao n cap] w fun e w' => e = .returned (.bool true) ∧ w = w' := by
  have hd : decide ((1048576 : Int) < (n : Int)) = true := by simp; omega
  go_enter Tryd.func6, Tryd.ntmps6
  go_wp2
  go_ret
  exact ⟨rfl, rfl⟩

end Go.Proofs.YtfpaichdkddglaaDoor.Draw

/- Chapter 6: drawn leaves. -/
namespace Go.Proofs.YtfpaichdkddglaaDoor.Tr
open Go.RowKit Go.Proofs.YtfpaichdkddglaaDoor.Mem Go.Proofs.YtfpaichdkddglaaDoor.Laws Go.Proofs.YtfpaichdkddglaaDoor.Bytes Go.Proofs.YtfpaichdkddglaaDoor.Sha Go.Proofs.YtfpaichdkddglaaDoor.Draw
set_option linter.unusedVariables false
set_option linter.unusedSimpArgs false

/-- the texts that l6List draws of -/
def four6 : List ByteArray := [⟨#[]⟩, ⟨#[97]⟩, ⟨#[98]⟩, ⟨#[120, 121, 122]⟩]
theorem four6_size : ∀ s ∈ four6, s.size ≤ 3 := by decide

set_option maxRecDepth 1000000 in
set_option maxHeartbeats 1000000 in
theorem list_any (W0 w : World) (g : Nat) (vb : Value) (xs : List Int) (hs : Sl W0 vb (bs xs)) (hby : Byt xs) (hx : xs.length ≤ 140737488355328) (hB : Below W0.heap.size W0 w) (hg : W0.heap.size ≤ g) (hc : Cur w g vb xs.length) :
    Calls Tryd.prog 28 #[.pointer (some ⟨g, 0, none⟩)] w fun e w' => ∃ (v' : Value) (l : List ByteArray), e = .returned v' ∧ l.length ≤ 8 ∧ (∀ s ∈ l, s.size ≤ 3) ∧ Own w' w.heap.size w'.heap.size 9 v' (ss l) ∧ Drawn W0 w g vb xs w' := by
  obtain ⟨i0, hi, hz0, hz1, hz2⟩ := info_parts info9t
  have hgw := hc.lt
  have hd0 : Drawn W0 w g vb xs (w.alloc (.cells #[] 9)) := (Drawn.refl hB hc).on hg hgw ((Below.refl _ _).alloc (Nat.le_refl _) _)
  have ho0 := emptyT w w.heap.size (Nat.le_refl _)
  have hd00 : ∀ o, Drawn W0 w g vb xs ((w.alloc (.cells #[] 9)).alloc o) := fun o => hd0.on hg hgw ((Below.refl _ _).alloc (by simp) _)
  have ho00 : ∀ o, Own ((w.alloc (.cells #[] 9)).alloc o) w.heap.size ((w.alloc (.cells #[] 9)).alloc o).heap.size 9 _ (ss []) := fun o => ho0.alloc o
  go_enter Tryd.func28, Tryd.ntmps28
  go_wp2_with fail
  refine (int_any W0 _ g vb xs (w.heap.size + 1) [0, 1, 2, 3, 4, 5, 7, 8, 6] (by rw [← World.size_alloc w (.cells #[] 9)]; exact lit_block _ _ _) (by omega) (by simp) (by simp) hs hby hx (hd00 _).below hg (hd00 _).cur).mono ?_
  rintro e w1 ⟨x, rfl, xm, hd1⟩
  have hx8 : 0 ≤ x ∧ x ≤ 8 := by simp only [List.mem_cons, List.not_mem_nil, or_false] at xm; omega
  obtain ⟨n, rfl⟩ := Int.eq_ofNat_of_zero_le hx8.1
  have ho1 : Own w1 w.heap.size w1.heap.size 9 _ (ss []) := (Own.drawn (ho00 _) hd1 (.inl hgw) (Nat.le_refl _)).mono (Nat.le_refl _) hd1.apart.size
  have hd2 := (hd00 _).and hd1
  have hn8 : n ≤ 8 := by omega
  clear hd0 ho0 hd1 hd00 ho00 xm hx8
  go_wp2
  go_loopw [3, 4] (fun out i wr => ∃ (k : Nat) (l : List ByteArray), k ≤ 8 ∧ i = .int .i64 k ∧ l.length + k ≤ 8 ∧ (∀ s ∈ l, s.size ≤ 3) ∧ Own wr w.heap.size wr.heap.size 9 out (ss l) ∧ Drawn W0 w g vb xs wr) (fun _ i _ => (intOf i).toNat)
  case atStart => exact ⟨n, [], by omega, rfl, by simp; omega, fun s hs => (by cases hs), ho1, hd2⟩
  case round =>
    obtain ⟨k, l, hk, rfl, hll, hls, ho, hd⟩ := hrel
    have HY : Hid (∀ s ∈ l, s.size ≤ 3) := hls
    clear hls ho1 hd2
    by_cases hlt : 0 < k
    · have hd3 : ∀ o, Drawn W0 w g vb xs (wr.alloc o) := fun o => hd.on hg hgw ((Below.refl _ _).alloc hd.apart.size _)
      have hgr : g < wr.heap.size := hd.cur.lt
      go_wp2_with fail
      refine (str_any W0 _ g vb xs wr.heap.size four6 (lit_block _ _ _) (by omega) (by decide) (by decide) hs hby hx (hd3 _).below hg (hd3 _).cur).mono ?_
      rintro e w2 ⟨s, rfl, hsm, hd4⟩
      have hsz := four6_size s hsm
      have ho2 : Own w2 w.heap.size w2.heap.size 9 _ (ss l) := (Own.drawn (ho.alloc _) hd4 (.inl hgw) (Nat.le_refl _)).mono (Nat.le_refl _) hd4.apart.size
      have hd5 := (hd3 _).and hd4
      have hsz2 : w.heap.size ≤ w2.heap.size := hd5.apart.size
      have c2 : (ss l).length + 1 ≤ maxLen := by rw [ss_len]; unfold maxLen; omega
      have c3 : ((ss l).length + 1) * 16 ≤ 140737488355328 := by rw [ss_len]; omega
      have c4 : ∀ o, w.heap.size ≤ (w2.alloc o).heap.size := fun o => by simp; omega
      clear hd3 hd4 ho hd
      go_wp2_with (at_builtin; go_must (refine wpl_app _ rfl (.tmp 13) (.tmp 17) 26 rfl 9 i0 (.string ⟨#[]⟩) 16 Tryd.underlying26 hi hz0 hz1 hz2 rfl w.heap.size _ (ss l) rfl (ho2.alloc _) _ rfl [.string s] (Sl.one _ _ _) (oneT _) c2 c3 (c4 _) ?_); intro v3 w3 ho3 hb3 hg3)
      have hd6 := hd5.on hg hgw (((Below.refl _ _).alloc hsz2 _).trans hb3)
      have ho4 : Own w3 w.heap.size w3.heap.size 9 v3 (ss (l ++ [s])) := by rw [ss_app]; exact ho3
      have HN : Hid (∀ z ∈ l ++ [s], z.size ≤ 3) := by
        intro z hz
        rcases List.mem_append.1 hz with hz | hz
        · exact HY.out z hz
        · rw [List.mem_singleton] at hz; rw [hz]; exact hsz
      go_roundw
      case rel => exact ⟨k - 1, l ++ [s], by omega, by go_num, by simp; omega, HN.out, ho4, hd6⟩
      case measure => simp [intOf]; omega
    · go_wp2
      go_ret
      exact ⟨_, l, rfl, by omega, HY.out, ho, hd⟩

end Go.Proofs.YtfpaichdkddglaaDoor.Tr

/- Chapter 10: drawn heads. -/
namespace Go.Proofs.YtfpaichdkddglaaDoor.He
open Go.RowKit Go.Proofs.YtfpaichdkddglaaDoor.Mem Go.Proofs.YtfpaichdkddglaaDoor.Laws Go.Proofs.YtfpaichdkddglaaDoor.Bytes Go.Proofs.YtfpaichdkddglaaDoor.Sha Go.Proofs.YtfpaichdkddglaaDoor.Tr Go.Proofs.YtfpaichdkddglaaDoor.Draw
set_option linter.unusedVariables false
set_option linter.unusedSimpArgs false

set_option maxRecDepth 1000000 in
theorem once10 (W0 w : World) (g : Nat) (vb : Value) (xs : List Int) (n : Int) (hn1 : 1 ≤ n) (hn2 : n ≤ 9223372036854775807) (hs : Sl W0 vb (bs xs)) (hby : Byt xs) (hx : xs.length ≤ 140737488355328) (hB : Below W0.heap.size W0 w) (hg : W0.heap.size ≤ g) (hc : Cur w g vb xs.length) :
    Calls Tryd.prog 30 #[.pointer (some ⟨g, 0, none⟩), .int .i64 n] w fun e w' => ∃ b : Bool, e = .returned (.bool b) ∧ Drawn W0 w g vb xs w' := by
  go_enter Tryd.func30, Tryd.ntmps30
  go_wp2_with fail
  refine (below_any W0 _ g vb xs n hn1 hn2 hs hby hx hB hg hc).mono ?_
  rintro e w2 ⟨a, rfl, a0, a1, hd2⟩
  go_wp2_with fail
  go_ret
  exact ⟨_, rfl, hd2⟩

theorem Oh.drawn {W0 w w' : World} {g lo hi : Nat} {vb : Value} {xs : List Int} {v : Value} {t : List Hd} (h : Oh w lo hi v t) (hd : Drawn W0 w g vb xs w') (hgl : g < lo ∨ hi ≤ g) (hh : hi ≤ w.heap.size) : Oh w' lo hi v t :=
  On.apart h hd.apart (by omega) hh
theorem Oh.up {w w' : World} {lo : Nat} {v : Value} {t : List Hd} (h : Oh w lo w.heap.size v t) (hk : Oh w' lo w.heap.size v t) (hs : w.heap.size ≤ w'.heap.size) : Oh w' lo w'.heap.size v t := On.mono hk (Nat.le_refl _) hs
theorem Oh.none (w : World) (lo : Nat) (h : lo ≤ w.heap.size) : Oh (w.alloc (.cells #[] 25)) lo (w.alloc (.cells #[] 25)).heap.size (.slice (some ⟨w.heap.size, 0, none⟩) 0 0) [] := On.lit 2 w lo 25 h
theorem Sh.one (w : World) (h : Hd) : Sn 2 (w.alloc (.cells #[.int .i64 h.n, .string h.r] 25)) (.slice (some ⟨w.heap.size, 0, none⟩) 1 1) 1 h.cs := Sn.one 2 w (hc h) 25 rfl
theorem cs_one (h : Hd) : ∀ u ∈ h.cs, u.oneCell' = true := by
  intro u hu
  simp only [Hd.cs, List.mem_cons, List.not_mem_nil, or_false] at hu
  rcases hu with rfl | rfl <;> rfl
theorem Oh.snoc {w : World} {lo hi : Nat} {v : Value} {t : List Hd} {h : Hd} (o : On 2 w lo hi 25 v (t.length + 1) (hds t ++ h.cs)) : Oh w lo hi v (t ++ [h]) := by
  unfold Oh
  rw [hds_snoc, List.length_append]
  exact o

end Go.Proofs.YtfpaichdkddglaaDoor.He

/- Chapter 10: drawn tables of heads. -/
namespace Go.Proofs.YtfpaichdkddglaaDoor.He
open Go.RowKit Go.Proofs.YtfpaichdkddglaaDoor.Mem Go.Proofs.YtfpaichdkddglaaDoor.Laws Go.Proofs.YtfpaichdkddglaaDoor.Bytes Go.Proofs.YtfpaichdkddglaaDoor.Sha Go.Proofs.YtfpaichdkddglaaDoor.Tr Go.Proofs.YtfpaichdkddglaaDoor.Draw
set_option linter.unusedVariables false
set_option linter.unusedSimpArgs false

theorem sz_snoc {T : List Hd} {M : Hd} (h : ∀ x ∈ T, x.r.size ≤ 32) (hm : M.r.size ≤ 32) : ∀ x ∈ T ++ [M], x.r.size ≤ 32 := by
  intro x hx
  rcases List.mem_append.1 hx with h1 | h1
  · exact h x h1
  · rw [List.mem_singleton] at h1; rw [h1]; exact hm

end Go.Proofs.YtfpaichdkddglaaDoor.He

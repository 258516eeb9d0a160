/- Chapter 9, the landed code: TileRoot. -/
import Derived.Test.YthcmkpdmdkpebaaDoorTi8
import Derived.Test.YthcmkpdmdkpebaaDoorTi9
import Derived.Test.YthcmkpdmdkpebaaDoorCln
namespace Go.Proofs.YthcmkpdmdkpebaaDoor.Ti
open Go.RowKit Go.Proofs.YthcmkpdmdkpebaaDoor.Mem Go.Proofs.YthcmkpdmdkpebaaDoor.Laws Go.Proofs.YthcmkpdmdkpebaaDoor.Bytes Go.Proofs.YthcmkpdmdkpebaaDoor.Sha Go.Proofs.YthcmkpdmdkpebaaDoor.Tr
set_option linter.unusedVariables false
set_option linter.unusedSimpArgs false

theorem fieldsNo : Tryd.prog.underlying 39 = some (.struct (Tryd.prog.fieldsOf 39)) := by kernel_rfl
theorem heldNo : Tryd.prog.stoodInHeld 39 = false := by kernel_rfl
theorem guardTl : Tryd.prog.eqGuardType Tryd.prog.depth 41 = false := by kernel_rfl
/-- whether two nodes are the same -/
def eqNo (x y : No) : Bool := (x.s.toList == y.s.toList) && (x.p == y.p)
theorem eqNoRun (w : World) (d : Nat) (x y : No) :
    (Op.equalIn (d + 1 + 1) 39 (.agg #[.string x.s, .bool x.p]) (.agg #[.string y.s, .bool y.p])).run Tryd.prog w = .ok (eqNo x y) w := by
  rw [run_equalIn_struct w (d + 1) _ _ _ fieldsNo heldNo]
  simp [Program.fieldsOf, Tryd.underlying39, Op.eqFields, go_sem, run_underlying Tryd.underlying4, run_underlying Tryd.underlying9, Tryd.underlying4, Tryd.underlying9, part]
  unfold eqNo
  repeat' split
  all_goals simp_all
theorem eqTlRun (w : World) (d : Nat) (x0 x1 x2 x3 y0 y1 y2 y3 : No) :
    (Op.equalIn (d + 1 + 1 + 1) 41 (.agg (t4 x0 x1 x2 x3)) (.agg (t4 y0 y1 y2 y3))).run Tryd.prog w = .ok (eqNo x0 y0 && eqNo x1 y1 && eqNo x2 y2 && eqNo x3 y3) w := by
  obtain ⟨i0, hi, hz0, hz1⟩ : ∃ i, Tryd.prog.info? 39 = some i ∧ i.zero = some (.agg #[.string ⟨#[]⟩, .bool false]) ∧ i.size = 2 := by
    have h := info39
    cases hh : Tryd.prog.info? 39 with
    | none => rw [hh] at h; simp at h
    | some i => rw [hh] at h; simp at h; exact ⟨i, rfl, h.1, h.2⟩
  have hco : Tryd.prog.cellsOf 39 = 2 := by simp [Program.cellsOf, hi, hz1]
  have hag : (isAgg 39).run Tryd.prog w = .ok true w := by
    unfold isAgg
    rw [Sem.run_bind, run_underlying Tryd.underlying39 w]
    rfl
  have hso : (sizeOf 39).run Tryd.prog w = .ok 2 w := by simp [sizeOf, typeInfo, hi, hz1]
  rw [run_equalIn_array w (d + 1 + 1) _ _ Tryd.underlying41 hi, hco]
  simp [List.range, List.range.loop, Op.eqItems, part, Sem.run_bind, hag, hso, t4, eqNoRun]
  cases eqNo x0 y0 <;> cases eqNo x1 y1 <;> cases eqNo x2 y2 <;> cases eqNo x3 y3 <;> simp
theorem neqTl (w : World) (x0 x1 x2 x3 : No) : (binOp .neq 41 (.agg (t4 x0 x1 x2 x3)) (.agg (t4 x0 no0 no0 no0))).run Tryd.prog w = .ok (.bool (!(eqNo x1 no0 && eqNo x2 no0 && eqNo x3 no0))) w := by
  rw [run_neq_struct, eqTlRun w 9997]
  have h : eqNo x0 x0 = true := by simp [eqNo]
  rw [h, Bool.true_and]
  rfl
theorem grdTl (w : World) (op : BinOp) (x y : Operand) (xs ys : Array Value) : (eqGuard op 41 x y (.agg xs) (.agg ys)).run Tryd.prog w = .ok () w := run_eqGuard_agg w op 41 x y xs ys guardTl

/-- nodes paired -/
def prs : List ByteArray → List ByteArray
  | [a, b] => [nodeH a b]
  | [a, b, c] => [nodeH a b, c]
  | [a, b, c, d] => [nodeH a b, nodeH c d]
  | t => t
theorem tc_prs {t : List ByteArray} (h2 : 2 ≤ t.length) (h4 : t.length ≤ 4) : t4 (jn (nt t 0) (nt t 1)) (jn (nt t 2) (nt t 3)) no0 no0 = tc (prs t) := by
  match t, h2, h4 with
  | [a, b], _, _ => rfl
  | [a, b, c], _, _ => rfl
  | [a, b, c, d], _, _ => rfl
  | [_], h2, _ => simp at h2
  | [], h2, _ => simp at h2
  | _ :: _ :: _ :: _ :: _ :: _, _, h4 => simp at h4
theorem prs_len {t : List ByteArray} (h2 : 2 ≤ t.length) (h4 : t.length ≤ 4) : (prs t).length < t.length ∧ 1 ≤ (prs t).length := by
  match t, h2, h4 with
  | [a, b], _, _ => simp [prs]
  | [a, b, c], _, _ => simp [prs]
  | [a, b, c, d], _, _ => simp [prs]
  | [_], h2, _ => simp at h2
  | [], h2, _ => simp at h2
  | _ :: _ :: _ :: _ :: _ :: _, _, h4 => simp at h4
theorem prs_root {t : List ByteArray} (h2 : 2 ≤ t.length) (h4 : t.length ≤ 4) : troot (prs t) = troot t := by
  match t, h2, h4 with
  | [a, b], _, _ => rfl
  | [a, b, c], _, _ => rfl
  | [a, b, c, d], _, _ => rfl
  | [_], h2, _ => simp at h2
  | [], h2, _ => simp at h2
  | _ :: _ :: _ :: _ :: _ :: _, _, h4 => simp at h4
theorem prs_size {t : List ByteArray} (hz : ∀ s ∈ t, s.size ≤ 10000000000) : ∀ s ∈ prs t, s.size ≤ 10000000000 := by
  have hn : ∀ a b, (nodeH a b).size ≤ 10000000000 := fun a b => by rw [nodeH_size]; omega
  match t, hz with
  | [], hz => exact hz
  | [_], hz => exact hz
  | [a, b], hz => intro s hs; simp [prs] at hs; subst hs; exact hn _ _
  | [a, b, c], hz => intro s hs; simp [prs] at hs; rcases hs with rfl | rfl; exact hn _ _; exact hz _ (by simp)
  | [a, b, c, d], hz => intro s hs; simp [prs] at hs; rcases hs with rfl | rfl; exact hn _ _; exact hn _ _
  | _ :: _ :: _ :: _ :: _ :: _, hz => exact hz
theorem nt_size {t : List ByteArray} (hz : ∀ s ∈ t, s.size ≤ 10000000000) (i : Nat) : (nt t i).s.size ≤ 100000000000 := by
  unfold nt
  split
  · rename_i s h
    have := hz s (List.mem_of_getElem? h)
    show s.size ≤ _
    omega
  · show (0 : Nat) ≤ _; omega
theorem one_eq {t : List ByteArray} (h : t.length ≤ 1) : (!(eqNo (nt t 1) no0 && eqNo (nt t 2) no0 && eqNo (nt t 3) no0)) = false := by
  match t, h with
  | [], _ => simp [eqNo, nt, no0]
  | [_], _ => simp [eqNo, nt, no0]
  | _ :: _ :: _, h => simp at h
theorem more_neq {t : List ByteArray} (h : 2 ≤ t.length) : (!(eqNo (nt t 1) no0 && eqNo (nt t 2) no0 && eqNo (nt t 3) no0)) = true := by
  match t, h with
  | [], h => simp at h
  | [_], h => simp at h
  | _ :: b :: _, _ => simp [eqNo, nt, no0]
/-- how many nodes block g has -/
def cntT (w : World) (g : Nat) : Nat := match w.heap[g]? with | some (.cells cs _ _) => cs.toList.countP (fun v => match v with | .bool true => true | _ => false) | _ => 0
theorem cntT_tc {w : World} {g : Nat} {t : List ByteArray} {ty : TypeId} (h : w.heap[g]? = some (.cells (tc t) ty (0, 0))) (h4 : t.length ≤ 4) : cntT w g = t.length := by
  unfold cntT
  rw [h]
  match t, h4 with
  | [], _ => rfl
  | [_], _ => rfl
  | [_, _], _ => rfl
  | [_, _, _], _ => rfl
  | [_, _, _, _], _ => rfl
  | _ :: _ :: _ :: _ :: _ :: _, h4 => simp at h4
theorem tileRoot_prs {t : List ByteArray} (h2 : 2 ≤ t.length) (h4 : t.length ≤ 4) : tileRoot (prs t) = tileRoot t := by
  have := prs_len h2 h4
  unfold tileRoot
  rw [if_pos (by omega), if_pos (by omega), prs_root h2 h4]
theorem tileRoot_one {t : List ByteArray} (h : t.length ≤ 1) : (nt t 0).s = tileRoot t := by
  match t, h with
  | [], _ => rfl
  | [_], _ => rfl
  | _ :: _ :: _, h => simp at h
theorem tileRoot_big {t : List ByteArray} (h : ¬ t.length ≤ 4) : tileRoot t = ⟨#[]⟩ := by unfold tileRoot; rw [if_neg (by omega)]

set_option maxRecDepth 1000000 in
set_option maxHeartbeats 2000000 in
theorem troot_impl (w : World) (v : Value) (l : List ByteArray) (hG : Glob w) (h : Sl w v (ss l)) (hl : l.length ≤ 1000000000000) (hz : ∀ s ∈ l, s.size ≤ 10000000000) :
    Calls Tryd.prog 10 #[v] w fun e w' => e = .returned (.string (tileRoot l)) ∧ Below w.heap.size w w' := by
  have h0 := h
  obtain ⟨ao, cap, rfl, hcap, _⟩ := h
  rw [ss_len] at hcap h0 ⊢
  by_cases h4 : l.length ≤ 4
  · have q := from_impl w _ l h0 h4
    have HB : Hid (Below w.heap.size w w) := Below.refl _ _
    have HZ : Hid (∀ s ∈ l, s.size ≤ 10000000000) := hz
    clear h0 hz
    go_enter Tryd.func10, Tryd.ntmps10
    go_wp2_with fail
    refine q.mono ?_
    rintro e w1 ⟨rfl, b1⟩
    have s1 := b1.size
    have hr0 : Hid ((w1.alloc (.cells #[.string ⟨#[]⟩, .bool false, .string ⟨#[]⟩, .bool false, .string ⟨#[]⟩, .bool false, .string ⟨#[]⟩, .bool false] 41)).heap[w1.heap.size]? = some (.cells #[.string ⟨#[]⟩, .bool false, .string ⟨#[]⟩, .bool false, .string ⟨#[]⟩, .bool false, .string ⟨#[]⟩, .bool false] 41 (0, 0))) := heap_alloc_new w1 _
    obtain ⟨X, HXW, HXR, HXB⟩ : ∃ X, Hid ((w1.alloc (.cells #[.string ⟨#[]⟩, .bool false, .string ⟨#[]⟩, .bool false, .string ⟨#[]⟩, .bool false, .string ⟨#[]⟩, .bool false] 41)).setRow w1.heap.size (tc l) = X) ∧ Hid (X.heap[w1.heap.size]? = some (.cells (tc l) 41 (0, 0))) ∧ Hid (Below w.heap.size w X) :=
      ⟨_, rfl, setRow_heap _ _ _ _ _ (0, 0) hr0.out, below_setRow (b1.alloc s1 _) s1 _⟩
    clear q b1
    go_wp2_with (refine wpList_store_row rfl 41 _ _ rfl w1.heap.size (tc l) rfl rfl 41 #[.string ⟨#[]⟩, .bool false, .string ⟨#[]⟩, .bool false, .string ⟨#[]⟩, .bool false, .string ⟨#[]⟩, .bool false] hr0.out (sizeT _) rfl (oneTc _) ?_; rw [HXW.out])
    simp only [Act.put]
    go_loopw [] (fun wr => ∃ t : List ByteArray, t.length ≤ 4 ∧ Hid (tileRoot t = tileRoot l) ∧ Hid (∀ s ∈ t, s.size ≤ 10000000000) ∧ Hid (wr.heap[w1.heap.size]? = some (.cells (tc t) 41 (0, 0))) ∧ Hid (Below w.heap.size w wr)) (fun wr => cntT wr w1.heap.size)
    case atStart => exact ⟨l, h4, rfl, HZ, HXR, HXB⟩
    case round =>
      obtain ⟨t, ht4, HT, HZt, R, B⟩ := hrel
      clear HXW HXR HXB hr0 HZ HB
      have hB := B.out.size
      have cl := (Array.getElem?_eq_some_iff.1 R.out).1
      have c0 : wr.cell? ⟨w1.heap.size, 0, none⟩ = some (.string (nt t 0).s) := by rw [cell_of_row _ _ _ _ _ _ R.out]; rfl
      have c1 : wr.cell? ⟨w1.heap.size, 1, none⟩ = some (.bool (nt t 0).p) := by rw [cell_of_row _ _ _ _ _ _ R.out]; rfl
      have hg : ∀ W op x y xs ys, _ := fun W op x y xs ys => grdTl W op x y xs ys
      by_cases h1 : t.length ≤ 1
      · have hne : ∀ W, (binOp .neq 41 (.agg (tc t)) (.agg #[.string (nt t 0).s, .bool (nt t 0).p, .string ⟨#[]⟩, .bool false, .string ⟨#[]⟩, .bool false, .string ⟨#[]⟩, .bool false])).run Tryd.prog W = .ok (.bool false) W := fun W => by
          have h := neqTl W (nt t 0) (nt t 1) (nt t 2) (nt t 3)
          rw [one_eq h1] at h
          exact h
        have HN : Hid ((nt t 0).s = tileRoot l) := (tileRoot_one h1).trans HT.out
        have q := fun W => Cln.clone_impl W (nt t 0).s (by have := nt_size HZt.out 0; omega)
        obtain ⟨a, ha⟩ : ∃ a, (nt t 0).s = a := ⟨_, rfl⟩
        obtain ⟨p, hp⟩ : ∃ a, (nt t 0).p = a := ⟨_, rfl⟩
        simp only [ha, hp] at hne HN q c0 c1
        obtain ⟨Z, hZ⟩ : ∃ Z, tc t = Z := ⟨_, rfl⟩
        have HR : Hid (wr.heap[w1.heap.size]? = some (.cells Z 41 (0, 0))) := by show _ = _; rw [← hZ]; exact R.out
        have HS : Hid ((Tryd.prog.info? 41).map (·.size) = some Z.size) := by show _ = _; rw [← hZ]; exact sizeT t
        rw [hZ] at hne
        clear ha hp HT R hZ
        go_wp2_with (refine wpList_load_row rfl 41 _ rfl w1.heap.size rfl 41 Z (0, 0) _ HR.out Tryd.underlying41 rfl HS.out ?_)
        refine (q wr).mono ?_
        rintro e w5 ⟨rfl, b5⟩
        have B5 : Below w.heap.size w w5 := B.out.trans (b5.mono B.out.size)
        go_wp2
        go_ret
        exact ⟨by rw [HN.out]; rfl, B5⟩
      · have hne : ∀ W, (binOp .neq 41 (.agg (tc t)) (.agg #[.string (nt t 0).s, .bool (nt t 0).p, .string ⟨#[]⟩, .bool false, .string ⟨#[]⟩, .bool false, .string ⟨#[]⟩, .bool false])).run Tryd.prog W = .ok (.bool true) W := fun W => by
          have h := neqTl W (nt t 0) (nt t 1) (nt t 2) (nt t 3)
          rw [more_neq (by omega)] at h
          exact h
        have q : ∀ W, Below w.heap.size w W → _ := fun W hW => paired_impl W (nt t 0) (nt t 1) (nt t 2) (nt t 3) (hG.later hW) (nt_size HZt.out 0) (nt_size HZt.out 1) (nt_size HZt.out 2) (nt_size HZt.out 3)
        rw [tc_prs (by omega) ht4] at q
        have q' : ∀ W, Below w.heap.size w W → Calls Tryd.prog 25 #[.agg (tc t)] W fun e w' => e = .returned (.agg (tc (prs t))) ∧ Below W.heap.size W w' := q
        have HT2 : Hid (tileRoot (prs t) = tileRoot l) := (tileRoot_prs (by omega) ht4).trans HT.out
        have HZ2 : Hid (∀ s ∈ prs t, s.size ≤ 10000000000) := prs_size HZt.out
        have hp := prs_len (t := t) (by omega) ht4
        obtain ⟨a, ha⟩ : ∃ a, (nt t 0).s = a := ⟨_, rfl⟩
        obtain ⟨p, hp⟩ : ∃ a, (nt t 0).p = a := ⟨_, rfl⟩
        simp only [ha, hp] at hne c0 c1
        have HM := cntT_tc R.out ht4
        clear ha hp HT q HZt
        go_wp2_with (refine wpList_load_row rfl 41 _ rfl w1.heap.size rfl 41 (tc t) (0, 0) _ R.out Tryd.underlying41 rfl (sizeT _) ?_)
        refine (q' wr B.out).mono ?_
        rintro e w5 ⟨rfl, b5⟩
        have B5 : Below w.heap.size w w5 := B.out.trans (b5.mono B.out.size)
        have r5 : Hid (w5.heap[w1.heap.size]? = some (.cells (tc t) 41 (0, 0))) := rowKeep R.out b5
        obtain ⟨X, HXW, HXR, HXB⟩ : ∃ X, Hid (w5.setRow w1.heap.size (tc (prs t)) = X) ∧ Hid (X.heap[w1.heap.size]? = some (.cells (tc (prs t)) 41 (0, 0))) ∧ Hid (Below w.heap.size w X) :=
          ⟨_, rfl, setRow_heap _ _ _ _ _ (0, 0) r5.out, below_setRow B5 s1 _⟩
        clear q' b5 B5 c0 c1 hne
        go_wp2_with (refine wpList_store_row rfl 41 _ _ rfl w1.heap.size (tc (prs t)) rfl rfl 41 (tc t) r5.out (sizeT _) rfl (oneTc _) ?_; rw [HXW.out])
        simp only [Act.put]
        go_roundw
        case rel => exact ⟨prs t, by omega, HT2, HZ2, HXR, HXB⟩
        case measure => rw [cntT_tc HXR.out (by omega), cntT_tc R.out ht4]; omega
  · have HN : Hid (tileRoot l = ⟨#[]⟩) := tileRoot_big h4
    have g : (4 : Int) < (l.length : Int) := by omega
    obtain ⟨R, hR⟩ : ∃ R, tileRoot l = R := ⟨_, rfl⟩
    rw [hR] at HN ⊢
    clear hR h0 hz
    go_enter Tryd.func10, Tryd.ntmps10
    go_wp2
    go_ret
    exact ⟨by rw [HN.out]; rfl, Below.refl _ _⟩

end Go.Proofs.YthcmkpdmdkpebaaDoor.Ti

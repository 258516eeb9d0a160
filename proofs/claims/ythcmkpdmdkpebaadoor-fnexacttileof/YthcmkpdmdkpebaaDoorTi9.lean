/- Chapter 9, the landed code: tiles made of texts. -/
import Derived.Test.YthcmkpdmdkpebaaDoorTi7
import Derived.Test.YthcmkpdmdkpebaaDoorTi3
import Derived.Test.YthcmkpdmdkpebaaDoorRec
namespace Go.Proofs.YthcmkpdmdkpebaaDoor.Ti
open Go.RowKit Go.Proofs.YthcmkpdmdkpebaaDoor.Mem Go.Proofs.YthcmkpdmdkpebaaDoor.Laws Go.Proofs.YthcmkpdmdkpebaaDoor.Bytes Go.Proofs.YthcmkpdmdkpebaaDoor.Sha Go.Proofs.YthcmkpdmdkpebaaDoor.Tr
set_option linter.unusedVariables false
set_option linter.unusedSimpArgs false

/-- the i-th of these nodes, and a tile of these -/
def nt (t : List ByteArray) (i : Nat) : No := match t[i]? with | some s => ⟨s, true⟩ | none => no0
def tc (t : List ByteArray) : Array Value := t4 (nt t 0) (nt t 1) (nt t 2) (nt t 3)
theorem tc_put {t : List ByteArray} (h : t.length < 4) (s : ByteArray) : (putL (tc t).toList (t.length * 2) (c2 ⟨s, true⟩).toList).toArray = tc (t ++ [s]) := by
  match t, h with
  | [], _ => rfl
  | [_], _ => rfl
  | [_, _], _ => rfl
  | [_, _, _], _ => rfl
  | _ :: _ :: _ :: _ :: _, h => simp at h; omega
theorem sizeT (t : List ByteArray) : (Tryd.prog.info? 41).map (·.size) = some (tc t).size := by show _ = some 8; kernel_rfl
theorem oneTc (t : List ByteArray) : (tc t).all (·.oneCell') = true := one8 _ _ _ _

set_option maxRecDepth 1000000 in
set_option maxHeartbeats 1000000 in
theorem from_impl (w : World) (v : Value) (l : List ByteArray) (h : Sl w v (ss l)) (hl : l.length ≤ 4) :
    Calls Tryd.prog 24 #[v] w fun e w' => e = .returned (.agg (tc l)) ∧ Below w.heap.size w w' := by
  obtain ⟨W, hW⟩ : ∃ W, W = (w.alloc (.cells (tc []) 41)).alloc (.cells (tc []) 41) := ⟨_, rfl⟩
  have HB : Hid (Below w.heap.size w W) := by
    show Below _ _ _
    rw [hW]
    exact ((Below.refl _ _).alloc (Nat.le_refl _) _).alloc (by simp) _
  have HR0 : Hid (W.heap[w.heap.size]? = some (.cells (tc []) 41 (0, 0))) := by show _ = _; rw [hW]; exact heap_alloc2_old w _ _
  have HR1 : Hid (W.heap[w.heap.size + 1]? = some (.cells (tc []) 41 (0, 0))) := by show _ = _; rw [hW]; exact heap_alloc2_new w _ _
  have ht0 := h
  obtain ⟨ao, cap, rfl, hc, hn, -⟩ := h
  rw [ss_len] at ht0 ⊢
  have HW : Hid (W = _) := hW
  clear hW
  go_enter Tryd.func24, Tryd.ntmps24
  go_wp2
  go_loopw [8] (fun i wr => ∃ k : Nat, k ≤ l.length ∧ i = .int .i64 (k : Int) ∧ Hid (wr.heap[w.heap.size + 1]? = some (.cells (tc (l.take k)) 41 (0, 0))) ∧ Hid (wr.heap[w.heap.size]? = some (.cells (tc []) 41 (0, 0))) ∧ Hid (Below w.heap.size w wr)) (fun i _ => l.length - (intOf i).toNat)
  case atStart =>
    have hW := HW.out
    unfold tc t4 at hW
    refine ⟨0, Nat.zero_le _, rfl, ?_, ?_, ?_⟩
    · show _ = _; rw [hW] at HR1; exact HR1.out
    · show _ = _; rw [hW] at HR0; exact HR0.out
    · show Below _ _ _; rw [hW] at HB; exact HB.out
  case round =>
    obtain ⟨k, hk, rfl, R1, R0, B⟩ := hrel
    have hsz := B.out.size
    clear HW HR0 HR1 HB
    by_cases hlt : k < l.length
    · obtain ⟨s, hs0⟩ : ∃ s, l[k]? = some s := ⟨l[k], by simp [hlt]⟩
      have hcl : ∃ b off, ao = some ⟨b, off, none⟩ ∧ wr.cell? ⟨b, off + k, none⟩ = some (.string s) := by
        obtain ⟨ao', cap', he, _, _, hr'⟩ := ht0.later B.out
        rw [ss_len] at he hr'
        simp only [Value.slice.injEq] at he
        obtain ⟨rfl, _, rfl⟩ := he
        obtain ⟨b, off, he, hc⟩ := hr' (by omega)
        exact ⟨b, off, he, by rw [hc k hlt]; simp [ss, hs0]⟩
      obtain ⟨b, off, rfl, hcell⟩ := hcl
      have HT : Hid ((putL (tc (l.take k)).toList (k * 2) (c2 ⟨s, true⟩).toList).toArray = tc (l.take (k + 1))) := by
        show _ = _
        have hl : (l.take k).length = k := by rw [List.length_take]; omega
        have h := tc_put (t := l.take k) (by omega) s
        rw [hl] at h
        rw [h, List.take_add_one, hs0]
        rfl
      have th : wr.there (w.heap.size + 1) (k * 2) 2 := there_row R1.out (by show _ ≤ 8; omega)
      obtain ⟨W5, HW5, Q1, Q0, QB⟩ : ∃ W5, Hid (wr.setCells (w.heap.size + 1) (k * 2) (c2 ⟨s, true⟩).toList = W5) ∧ Hid (W5.heap[w.heap.size + 1]? = some (.cells (tc (l.take (k + 1))) 41 (0, 0))) ∧ Hid (W5.heap[w.heap.size]? = some (.cells (tc []) 41 (0, 0))) ∧ Hid (Below w.heap.size w W5) :=
        ⟨_, rfl, by show _ = _; rw [← HT.out]; exact heap_setCells _ _ _ wr (tc (l.take k)).toList _ R1.out, (heap_setCells_other (w.heap.size + 1) w.heap.size (by omega) _ _ wr).trans R0.out, below_setCells (by omega) _ _ wr B.out⟩
      have z0 : (0 : Int) ≤ (k : Int) := by omega
      have z1 : (k : Int) < 4 := by omega
      clear hs0 ht0 HT R1 R0 B
      go_wp2_with (refine wpList_store_mid rfl 39 _ _ rfl (w.heap.size + 1) (k * 2) (c2 ⟨s, true⟩) rfl rfl th (size2 _) (one2 _) ?_; rw [HW5.out])
      go_roundw
      case rel => exact ⟨k + 1, by omega, by go_num, Q1, Q0, QB⟩
      case measure => simp [intOf]; omega
    · have R2 := R1.out
      rw [List.take_of_length_le (by omega)] at R2
      have HR2 : Hid (wr.heap[w.heap.size + 1]? = some (.cells (tc l) 41 (0, 0))) := R2
      clear R1 R2 ht0
      go_wp2_with (first | (refine wpList_load_row rfl 41 _ rfl (w.heap.size + 1) rfl 41 (tc l) (0, 0) _ HR2.out Tryd.underlying41 rfl (sizeT _) ?_) | (refine wpList_store_row rfl 41 _ _ rfl w.heap.size (tc l) rfl rfl 41 _ R0.out (sizeT _) rfl (oneTc _) ?_))
      exact bodyPost_ret (v := .agg (tc l)) (results_cell_row rfl _ _ w.heap.size 41 _ (0, 0) _ rfl (setRow_heap _ _ _ _ _ (0, 0) R0.out) Tryd.underlying41 rfl (sizeT _)) rfl ⟨rfl, below_setRow B.out (Nat.le_refl _) _⟩

theorem tl_more {l : List ByteArray} {s : Nat} (hs : 1 ≤ s) : ∀ n k, (k + n + 1) * s ≤ l.length → (tl l s n k).length = n ∧ tl l s (n + 1) k = tl l s n k ++ [nd l s (k + n)] := by
  intro n
  induction n with
  | zero =>
    intro k h
    have h1 : (k + 1) * s ≤ l.length := h
    exact ⟨rfl, by simp [tl, h1]⟩
  | succ n ih =>
    intro k h
    have h1 : (k + 1) * s ≤ l.length := Nat.le_trans (Nat.mul_le_mul_right s (by omega)) h
    obtain ⟨i1, i2⟩ := ih (k + 1) (by rw [show k + 1 + n + 1 = k + (n + 1) + 1 by omega]; exact h)
    refine ⟨by rw [tl, if_pos h1, List.length_cons, i1], ?_⟩
    rw [tl, if_pos h1, i2]
    rw [show tl l s (n + 1) k = nd l s k :: tl l s n (k + 1) by rw [tl, if_pos h1]]
    rw [List.cons_append, show k + 1 + n = k + (n + 1) by omega]
theorem tl_stop {l : List ByteArray} {s : Nat} (hs : 1 ≤ s) : ∀ n k, ¬ (k + n + 1) * s ≤ l.length → tl l s (n + 1) k = tl l s n k := by
  intro n
  induction n with
  | zero =>
    intro k h
    have h1 : ¬ (k + 1) * s ≤ l.length := h
    simp only [tl]
    rw [if_neg h1]
  | succ n ih =>
    intro k h
    by_cases h1 : (k + 1) * s ≤ l.length
    · rw [tl, if_pos h1, ih (k + 1) (by rw [show k + 1 + n + 1 = k + (n + 1) + 1 by omega]; exact h), show tl l s (n + 1) k = nd l s k :: tl l s n (k + 1) by rw [tl, if_pos h1]]
    · rw [tl, if_neg h1, tl, if_neg h1]

set_option maxRecDepth 1000000 in
set_option maxHeartbeats 2000000 in
theorem at_impl (w : World) (v : Value) (l : List ByteArray) (S q : Nat) (hG : Glob w) (h : Sl w v (ss l)) (hl : l.length ≤ 200) (hz : ∀ s ∈ l, s.size ≤ 10000000000) (hS0 : 1 ≤ S) (hS1 : S ≤ 64) (hq : q ≤ 50) :
    Calls Tryd.prog 22 #[v, .int .i64 (S : Int), .int .i64 (q : Int)] w fun e w' => e = .returned (.agg (tc (tl l S 4 (4 * q)))) ∧ Below w.heap.size w w' := by
  obtain ⟨W, hW⟩ : ∃ W, W = (w.alloc (.cells (tc []) 41)).alloc (.cells (tc []) 41) := ⟨_, rfl⟩
  have HB : Hid (Below w.heap.size w W) := by
    show Below _ _ _
    rw [hW]
    exact ((Below.refl _ _).alloc (Nat.le_refl _) _).alloc (by simp) _
  have HR0 : Hid (W.heap[w.heap.size]? = some (.cells (tc []) 41 (0, 0))) := by show _ = _; rw [hW]; exact heap_alloc2_old w _ _
  have HR1 : Hid (W.heap[w.heap.size + 1]? = some (.cells (tc []) 41 (0, 0))) := by show _ = _; rw [hW]; exact heap_alloc2_new w _ _
  have HS : Hid (Sl w v (ss l)) := h
  obtain ⟨ao, cap, rfl, hcap, _⟩ := h
  rw [ss_len] at *
  obtain ⟨L, hL⟩ : ∃ L, tl l S 4 (4 * q) = L := ⟨_, rfl⟩
  rw [hL]
  have HL : Hid (tl l S 4 (4 * q) = L) := hL
  have HW : Hid (W = _) := hW
  clear hW hL
  go_enter Tryd.func22, Tryd.ntmps22
  go_wp2
  go_loopw [11] (fun i wr => ∃ k : Nat, k ≤ 4 ∧ i = .int .i64 (k : Int) ∧ Hid (wr.heap[w.heap.size + 1]? = some (.cells (tc (tl l S k (4 * q))) 41 (0, 0))) ∧ Hid (wr.heap[w.heap.size]? = some (.cells (tc []) 41 (0, 0))) ∧ Hid (Below w.heap.size w wr)) (fun i _ => 4 - (intOf i).toNat)
  case atStart =>
    have hW := HW.out
    unfold tc t4 at hW
    refine ⟨0, Nat.zero_le _, rfl, ?_, ?_, ?_⟩
    · show _ = _; rw [hW] at HR1; exact HR1.out
    · show _ = _; rw [hW] at HR0; exact HR0.out
    · show Below _ _ _; rw [hW] at HB; exact HB.out
  case round =>
    obtain ⟨k, hk, rfl, R1, R0, B⟩ := hrel
    have hsz := B.out.size
    clear HW HR0 HR1 HB
    by_cases hlt : k < 4
    · obtain ⟨A, hA⟩ : ∃ A, (4 * q + k) * S = A := ⟨_, rfl⟩
      have hC : (4 * q + k + 1) * S = A + S := by rw [Nat.add_mul, Nat.one_mul, hA]
      have hAb : A ≤ 13000 := by rw [← hA]; exact Nat.le_trans (Nat.mul_le_mul (show 4 * q + k ≤ 203 by omega) hS1) (by omega)
      have w1 : IntKind.i64.wrap (4 * (q : Int)) = 4 * (q : Int) := by rw [IntKind.wrap_i64]; omega
      have e2 : (4 * (q : Int) + (k : Int)) * (S : Int) = (A : Int) := by rw [← hA]; simp
      have w2 : IntKind.i64.wrap ((4 * (q : Int) + (k : Int)) * (S : Int)) = (A : Int) := by rw [e2, IntKind.wrap_i64]; omega
      have w3 : IntKind.i64.wrap ((A : Int) + (S : Int)) = (A : Int) + (S : Int) := by rw [IntKind.wrap_i64]; omega
      have w4 : IntKind.i64.wrap (4 * (q : Int) + (k : Int)) = 4 * (q : Int) + (k : Int) := by rw [IntKind.wrap_i64]; omega
      have z0 : (0 : Int) ≤ (k : Int) := by omega
      have z1 : (k : Int) < 4 := by omega
      by_cases hw : A + S ≤ l.length
      · obtain ⟨m1, m2⟩ := tl_more (l := l) hS0 k (4 * q) (by rw [hC]; exact hw)
        have hnd : nd l S (4 * q + k) = root ((l.drop A).take S) := by unfold nd; rw [hA]
        obtain ⟨b, off, cap', he, hc', sm⟩ := slMid HS.out hS0 hw
        simp only [Value.slice.injEq] at he
        obtain ⟨rfl, _, rfl⟩ := he
        have hlen : ((l.drop A).take S).length = S := by rw [List.length_take, List.length_drop]; omega
        have qr := root_impl wr _ ((l.drop A).take S) (hG.later B.out) (sm.later B.out) (by rw [hlen]; omega) (fun s hs => hz s (List.mem_of_mem_drop (List.mem_of_mem_take hs)))
        have hro : rootOf ((l.drop A).take S) = root ((l.drop A).take S) := by unfold rootOf; rw [if_pos (by rw [hlen]; omega)]
        rw [hro] at qr
        obtain ⟨x, hx⟩ : ∃ x, root ((l.drop A).take S) = x := ⟨_, rfl⟩
        rw [hx] at qr hnd
        rw [hnd] at m2
        have HT : Hid ((putL (tc (tl l S k (4 * q))).toList (k * 2) (c2 ⟨x, true⟩).toList).toArray = tc (tl l S (k + 1) (4 * q))) := by
          show _ = _
          have h := tc_put (t := tl l S k (4 * q)) (by omega) x
          rw [m1] at h
          rw [h, m2]
        have g1 : (A : Int) + (S : Int) ≤ (l.length : Int) := by omega
        have g2 : (A : Int) ≤ (A : Int) + (S : Int) := by omega
        have g3 : (A : Int) + (S : Int) ≤ (cap : Int) := by omega
        have g4 : ¬ cap = A := by omega
        have g5 : ((A : Int) + (S : Int)).toNat = A + S := by omega
        have g6 : (0 : Int) ≤ (A : Int) + (S : Int) := by omega
        clear m1 m2 hnd hx hro hlen sm hA hC e2
        go_wp2_with fail
        refine qr.mono ?_
        rintro e w5 ⟨rfl, b5⟩
        have B5 : Below w.heap.size w w5 := B.out.trans (b5.mono B.out.size)
        have r1 := rowKeep R1.out b5
        have r0 := rowKeep R0.out b5
        have th : w5.there (w.heap.size + 1) (k * 2) 2 := there_row r1 (by show _ ≤ 8; omega)
        obtain ⟨W5, HW5, Q1, Q0, QB⟩ : ∃ W5, Hid (w5.setCells (w.heap.size + 1) (k * 2) (c2 ⟨x, true⟩).toList = W5) ∧ Hid (W5.heap[w.heap.size + 1]? = some (.cells (tc (tl l S (k + 1) (4 * q))) 41 (0, 0))) ∧ Hid (W5.heap[w.heap.size]? = some (.cells (tc []) 41 (0, 0))) ∧ Hid (Below w.heap.size w W5) :=
          ⟨_, rfl, by show _ = _; rw [← HT.out]; exact heap_setCells _ _ _ w5 (tc (tl l S k (4 * q))).toList _ r1, (heap_setCells_other (w.heap.size + 1) w.heap.size (by omega) _ _ w5).trans r0, below_setCells (by omega) _ _ w5 B5⟩
        clear HT R1 R0 B r1 r0 B5 b5 qr
        go_wp2_with (refine wpList_store_mid rfl 39 _ _ rfl (w.heap.size + 1) (k * 2) (c2 ⟨x, true⟩) rfl rfl th (size2 _) (one2 _) ?_; rw [HW5.out])
        go_roundw
        case rel => exact ⟨k + 1, by omega, by go_num, Q1, Q0, QB⟩
        case measure => simp [intOf]; omega
      · have HT : Hid (tl l S (k + 1) (4 * q) = tl l S k (4 * q)) := tl_stop hS0 k (4 * q) (by rw [hC]; exact hw)
        have g1 : ¬ (A : Int) + (S : Int) ≤ (l.length : Int) := by omega
        clear hA hC e2
        go_wp2
        go_roundw
        case rel => exact ⟨k + 1, by omega, by go_num, by show _ = _; rw [HT.out]; exact R1.out, R0, B⟩
        case measure => simp [intOf]; omega
    · obtain rfl : k = 4 := by omega
      rw [HL.out] at R1
      go_wp2_with (first | (refine wpList_load_row rfl 41 _ rfl (w.heap.size + 1) rfl 41 (tc L) (0, 0) _ R1.out Tryd.underlying41 rfl (sizeT _) ?_) | (refine wpList_store_row rfl 41 _ _ rfl w.heap.size (tc L) rfl rfl 41 _ R0.out (sizeT _) rfl (oneTc _) ?_))
      exact bodyPost_ret (v := .agg (tc L)) (results_cell_row rfl _ _ w.heap.size 41 _ (0, 0) _ rfl (setRow_heap _ _ _ _ _ (0, 0) R0.out) Tryd.underlying41 rfl (sizeT _)) rfl ⟨rfl, below_setRow B.out (Nat.le_refl _) _⟩

end Go.Proofs.YthcmkpdmdkpebaaDoor.Ti

/- Chapter 3, the landed code: the latest of a list. -/
import Derived.Test.YtbpgdagmffbagabLatA
import Derived.Test.YtbpgdagmffbagabImpI
namespace Go.Proofs.Ytbpgdagmffbagab.Ver
open Go.RowKit Go.Proofs.Ytbpgdagmffbagab.Mem Go.Proofs.Ytbpgdagmffbagab.Laws Go.Proofs.Ytbpgdagmffbagab.Bytes Go.Proofs.Ytbpgdagmffbagab.Sha
set_option linter.unusedVariables false
set_option linter.unusedSimpArgs false

def lessQ (q r : Int × Int × Int × ByteArray) : Bool := decide (cmpV q.1 q.2.1 q.2.2.1 q.2.2.2 r.1 r.2.1 r.2.2.1 r.2.2.2 < 0)
def latF (q : Int × Int × Int × ByteArray) (l : List (Int × Int × Int × ByteArray)) : Int × Int × Int × ByteArray := l.foldl (fun b v => if lessQ b v = true then v else b) q

set_option maxRecDepth 1000000 in
set_option maxHeartbeats 1000000 in
theorem lat_nil (w : World) (g cap : Nat) : Calls Try.prog 10 #[.slice (some ⟨g, 0, none⟩) 0 cap] w fun e w' => e = .returned (.agg #[.int .i64 0, .int .i64 0, .int .i64 0, .string ⟨#[]⟩]) ∧ Below w.heap.size w w' := by
  have X0 : Vr (w.alloc (.cells (vc 0 0 0 ⟨#[]⟩) 25)) w.heap.size 0 0 0 ⟨#[]⟩ := heap_alloc_new w _
  have hb : Below w.heap.size w (w.alloc (.cells (vc 0 0 0 ⟨#[]⟩) 25)) := (Below.refl _ _).alloc (Nat.le_refl _) _
  go_enter Try.func10, Try.ntmps10
  go_wp2_with fail
  exact bodyPost_ret (v := .agg (vc 0 0 0 ⟨#[]⟩)) (results_cell_row rfl _ _ w.heap.size 25 _ (0, 0) _ rfl X0 Try.underlying25 rfl (sizeV 0 0 0 ⟨#[]⟩)) rfl ⟨rfl, hb⟩

set_option maxRecDepth 1000000 in
set_option maxHeartbeats 1000000 in
theorem lat_impl (w : World) (g cap : Nat) (q : Int × Int × Int × ByteArray) (l : List (Int × Int × Int × ByteArray)) (hcv : Cv w g (q :: l)) (hc : l.length + 1 ≤ cap) (hl : l.length ≤ 5) (hz : ∀ x ∈ q :: l, x.2.2.2.size ≤ 100) :
    Calls Try.prog 10 #[.slice (some ⟨g, 0, none⟩) (l.length + 1) cap] w fun e w' => e = .returned (verQ (latF q l)) ∧ Below w.heap.size w w' := by
  obtain ⟨a, b, c, p⟩ := q
  have HZ : Hid (∀ x ∈ (a, b, c, p) :: l, x.2.2.2.size ≤ 100) := hz
  obtain ⟨k0, k1, k2, k3⟩ := hcv 0 (a, b, c, p) rfl
  simp only [Nat.mul_zero, Nat.zero_add] at k0 k1 k2 k3
  have hgl : g < w.heap.size := World.block_lt_of_cell? w _ k0
  have HCv : Hid (Cv w g ((a, b, c, p) :: l)) := hcv
  clear hz hcv
  have m0 : (((l.length : Int) + 1) == 0) = false := by simp; omega
  have HA0 : Hid (Vr ((w.alloc (.cells #[.int .i64 0, .int .i64 0, .int .i64 0, .string ⟨#[]⟩] 25)).alloc (.cells #[.int .i64 a, .int .i64 b, .int .i64 c, .string p] 25)) (w.heap.size + 1) a b c p) := heap_alloc2_new w _ _
  have HA1 : Hid (Vr ((w.alloc (.cells #[.int .i64 0, .int .i64 0, .int .i64 0, .string ⟨#[]⟩] 25)).alloc (.cells #[.int .i64 a, .int .i64 b, .int .i64 c, .string p] 25)) w.heap.size 0 0 0 ⟨#[]⟩) := heap_alloc2_old w _ _
  have HAB : Hid (Below w.heap.size w ((w.alloc (.cells #[.int .i64 0, .int .i64 0, .int .i64 0, .string ⟨#[]⟩] 25)).alloc (.cells #[.int .i64 a, .int .i64 b, .int .i64 c, .string p] 25))) := ((Below.refl _ _).alloc (Nat.le_refl _) _).alloc (by simp) _
  have hpz : p.size ≤ 100 := HZ.out (a, b, c, p) (by simp)
  by_cases hcap : cap = 1
  · have hl0 : ¬ 0 < l.length := by omega
    subst hcap
    go_enter Try.func10, Try.ntmps10
    go_wp2_with fail
    go_loopw [16] (fun i wr => ∃ (k : Nat) (x y z : Int) (u : ByteArray), k ≤ l.length ∧ i = .int .i64 (k : Int) ∧ Hid ((x, y, z, u) = latF (a, b, c, p) (l.take k)) ∧ u.size ≤ 100 ∧ Vr wr (w.heap.size + 1) x y z u ∧ Vr wr w.heap.size 0 0 0 ⟨#[]⟩ ∧ Below w.heap.size w wr) (fun i _ => l.length - (intOf i).toNat)
    case atStart => exact ⟨0, a, b, c, p, Nat.zero_le _, rfl, rfl, hpz, HA0.out, HA1.out, HAB.out⟩
    case round =>
      obtain ⟨k, x, y, z, u, hk, rfl, HL, huz, hV, hX, hb⟩ := hrel
      by_cases hlt : k < l.length
      · exfalso; omega
      · have HF : Hid ((x, y, z, u) = latF (a, b, c, p) l) := by
          show _ = _
          have h := HL.out
          rw [List.take_of_length_le (by omega)] at h
          exact h
        go_wp2_with (first | (refine wpList_load_row rfl 25 _ rfl (w.heap.size + 1) rfl 25 (vc x y z u) (0, 0) _ hV Try.underlying25 rfl (sizeV x y z u) ?_) | (refine wpList_store_row rfl 25 _ _ rfl w.heap.size (vc x y z u) rfl rfl 25 (vc 0 0 0 ⟨#[]⟩) hX (sizeV x y z u) rfl (oneV x y z u) ?_))
        exact bodyPost_ret (v := .agg (vc x y z u)) (results_cell_row rfl _ _ w.heap.size 25 _ (0, 0) _ rfl (Vr.row hX x y z u) Try.underlying25 rfl (sizeV x y z u)) rfl ⟨by rw [← HF.out]; rfl, below_setRow hb (Nat.le_refl _) _⟩
  · go_enter Try.func10, Try.ntmps10
    go_wp2_with fail
    go_loopw [16] (fun i wr => ∃ (k : Nat) (x y z : Int) (u : ByteArray), k ≤ l.length ∧ i = .int .i64 (k : Int) ∧ Hid ((x, y, z, u) = latF (a, b, c, p) (l.take k)) ∧ u.size ≤ 100 ∧ Vr wr (w.heap.size + 1) x y z u ∧ Vr wr w.heap.size 0 0 0 ⟨#[]⟩ ∧ Below w.heap.size w wr) (fun i _ => l.length - (intOf i).toNat)
    case atStart => exact ⟨0, a, b, c, p, Nat.zero_le _, rfl, rfl, hpz, HA0.out, HA1.out, HAB.out⟩
    case round =>
      obtain ⟨k, x, y, z, u, hk, rfl, HL, huz, hV, hX, hb⟩ := hrel
      by_cases hlt : k < l.length
      · obtain ⟨⟨a', b', c', p'⟩, hq⟩ : ∃ q, l[k]? = some q := ⟨l[k], by simp [hlt]⟩
        obtain ⟨i0, i1, i2, i3⟩ := HCv.out (k + 1) (a', b', c', p') (by simpa using hq)
        have e4 : 4 * (k + 1) = 4 + k * 4 := by omega
        rw [e4] at i0 i1 i2 i3
        have j0 := (hb.cell (p := ⟨g, 4 + k * 4, none⟩) hgl).trans i0
        have j1 := (hb.cell (p := ⟨g, 4 + k * 4 + 1, none⟩) hgl).trans i1
        have j2 := (hb.cell (p := ⟨g, 4 + k * 4 + 2, none⟩) hgl).trans i2
        have j3 := (hb.cell (p := ⟨g, 4 + k * 4 + 3, none⟩) hgl).trans i3
        have hpz' : p'.size ≤ 100 := HZ.out (a', b', c', p') (List.mem_cons_of_mem _ (List.mem_of_getElem? hq))
        have V3 : Vr (wr.alloc (.cells #[.int .i64 a', .int .i64 b', .int .i64 c', .string p'] 25)) (w.heap.size + 1) x y z u := Vr.same hV ((Below.refl _ _).alloc (Nat.le_refl _) _)
        have V5 : Vr (wr.alloc (.cells #[.int .i64 a', .int .i64 b', .int .i64 c', .string p'] 25)) wr.heap.size a' b' c' p' := heap_alloc_new wr _
        have HX5 : Hid (Vr (wr.alloc (.cells #[.int .i64 a', .int .i64 b', .int .i64 c', .string p'] 25)) w.heap.size 0 0 0 ⟨#[]⟩) := Vr.same hX ((Below.refl _ _).alloc (Nat.le_refl _) _)
        have HB5 : Hid (Below w.heap.size w (wr.alloc (.cells #[.int .i64 a', .int .i64 b', .int .i64 c', .string p'] 25))) := hb.alloc hb.size _
        have hsz := hb.size
        have hn1 := hV.lt
        have HF : Hid (latF (a, b, c, p) (l.take (k + 1)) = if lessQ (x, y, z, u) (a', b', c', p') = true then (a', b', c', p') else (x, y, z, u)) := by
          show _ = _
          rw [HL.out]
          unfold latF
          rw [List.take_succ_eq_append_getElem hlt, List.foldl_append]
          have : l[k] = (a', b', c', p') := by rw [List.getElem?_eq_getElem hlt] at hq; simpa using hq
          rw [this]
          rfl
        have qq := less_impl (wr.alloc (.cells #[.int .i64 a', .int .i64 b', .int .i64 c', .string p'] 25)) x y z u a' b' c' p' (by omega) (by omega)
        obtain ⟨r, hr⟩ : ∃ r, decide (cmpV x y z u a' b' c' p' < 0) = r := ⟨_, rfl⟩
        have HR : Hid (lessQ (x, y, z, u) (a', b', c', p') = r) := hr
        rw [hr] at qq
        unfold ver at qq
        clear hr hq i0 i1 i2 i3 e4 hV hX hb
        go_wp2_with (first | (refine wpList_load_row rfl 25 _ rfl (w.heap.size + 1) rfl 25 (vc x y z u) (0, 0) _ V3 Try.underlying25 rfl (sizeV x y z u) ?_) | (refine wpList_load_row rfl 25 _ rfl wr.heap.size rfl 25 (vc a' b' c' p') (0, 0) _ V5 Try.underlying25 rfl (sizeV a' b' c' p') ?_))
        refine qq.mono ?_
        rintro e w6 ⟨rfl, b6⟩
        have V6 : Vr w6 (w.heap.size + 1) x y z u := Vr.same V3 b6
        have V7 : Vr w6 wr.heap.size a' b' c' p' := Vr.same V5 b6
        have X6 : Vr w6 w.heap.size 0 0 0 ⟨#[]⟩ := Vr.same HX5.out b6
        have B6 : Below w.heap.size w w6 := HB5.out.trans (b6.mono HB5.out.size)
        clear V3 V5 HX5 HB5 b6 qq j0 j1 j2 j3
        cases r
        · go_wp2_with fail
          go_roundw
          case rel => exact ⟨k + 1, x, y, z, u, by omega, by go_num, by show _ = _; rw [HF.out, HR.out]; rfl, huz, V6, X6, B6⟩
          case measure => simp [intOf]; omega
        · go_wp2_with (first | (refine wpList_load_row rfl 25 _ rfl wr.heap.size rfl 25 (vc a' b' c' p') (0, 0) _ V7 Try.underlying25 rfl (sizeV a' b' c' p') ?_) | (refine wpList_store_row rfl 25 _ _ rfl (w.heap.size + 1) (vc a' b' c' p') rfl rfl 25 (vc x y z u) V6 (sizeV a' b' c' p') rfl (oneV a' b' c' p') ?_))
          go_roundw
          case rel => exact ⟨k + 1, a', b', c', p', by omega, by go_num, by show _ = _; rw [HF.out, HR.out]; rfl, hpz', Vr.row V6 a' b' c' p', Vr.rowOther X6 (by omega) _, below_setRow B6 (by omega) _⟩
          case measure => simp [intOf]; omega
      · have HF : Hid ((x, y, z, u) = latF (a, b, c, p) l) := by
          show _ = _
          have h := HL.out
          rw [List.take_of_length_le (by omega)] at h
          exact h
        go_wp2_with (first | (refine wpList_load_row rfl 25 _ rfl (w.heap.size + 1) rfl 25 (vc x y z u) (0, 0) _ hV Try.underlying25 rfl (sizeV x y z u) ?_) | (refine wpList_store_row rfl 25 _ _ rfl w.heap.size (vc x y z u) rfl rfl 25 (vc 0 0 0 ⟨#[]⟩) hX (sizeV x y z u) rfl (oneV x y z u) ?_))
        exact bodyPost_ret (v := .agg (vc x y z u)) (results_cell_row rfl _ _ w.heap.size 25 _ (0, 0) _ rfl (Vr.row hX x y z u) Try.underlying25 rfl (sizeV x y z u)) rfl ⟨by rw [← HF.out]; rfl, below_setRow hb (Nat.le_refl _) _⟩

end Go.Proofs.Ytbpgdagmffbagab.Ver

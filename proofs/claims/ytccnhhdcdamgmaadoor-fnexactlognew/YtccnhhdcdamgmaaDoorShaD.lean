/- Contract of the program's block: 64 rounds over sixteen words that are turned in place, and the sums with what was before. -/
import Derived.Test.YtccnhhdcdamgmaaDoorShaC
namespace Go.Proofs.YtccnhhdcdamgmaaDoor.Sha
open Go.RowKit Go.Proofs.YtccnhhdcdamgmaaDoor.Mem Go.Proofs.YtccnhhdcdamgmaaDoor.Laws Go.Proofs.YtccnhhdcdamgmaaDoor.Bytes
set_option linter.unusedVariables false
set_option linter.unusedSimpArgs false

theorem ext_pre (n : Nat) : ∀ (l : List Nat) (i : Nat), i < l.length → (ext n l).getD i 0 = l.getD i 0 := by
  induction n with
  | zero => intro l i h; rfl
  | succ n ih =>
    intro l i h
    rw [ext, ih _ _ (by simp; omega)]
    simp [List.getD, List.getElem?_append_left h]
theorem ext_rec (n : Nat) : ∀ (l : List Nat) (i : Nat), 16 ≤ l.length → l.length ≤ i → i < l.length + n →
    (ext n l).getD i 0 = ((ext n l).getD (i - 16) 0 + s0w ((ext n l).getD (i - 15) 0) + (ext n l).getD (i - 7) 0 + s1w ((ext n l).getD (i - 2) 0)) % 4294967296 := by
  induction n with
  | zero => intro l i h1 h2 h3; omega
  | succ n ih =>
    intro l i h1 h2 h3
    rw [ext]
    by_cases e : i = l.length
    · subst e
      rw [ext_pre n _ _ (by simp), ext_pre n _ (l.length - 16) (by simp; omega), ext_pre n _ (l.length - 15) (by simp; omega), ext_pre n _ (l.length - 7) (by simp; omega), ext_pre n _ (l.length - 2) (by simp; omega)]
      have g : ∀ j, j < l.length → (l ++ [nxt l]).getD j 0 = l.getD j 0 := fun j hj => by simp [List.getD, List.getElem?_append_left hj]
      rw [g (l.length - 16) (by omega), g (l.length - 15) (by omega), g (l.length - 7) (by omega), g (l.length - 2) (by omega)]
      simp [List.getD, nxt]
    · exact ih _ i (by simp; omega) (by simp; omega) (by simp; omega)
theorem first_n (n : Nat) (f : Nat → Nat) (i : Nat) (h : i < 16) : (ext n ((List.range 16).map f)).getD i 0 = f i := by
  rw [ext_pre n _ i (by simpa using h)]
  simp [List.getD, h]
theorem next_n (n : Nat) (l : List Nat) (hl : l.length = 16) (q i : Nat) (h : 16 * q + i < n) : (ext n l).getD (16 * q + (i + 16)) 0 = ((ext n l).getD (16 * q + i) 0 + s0w ((ext n l).getD (16 * q + (i + 1)) 0) + (ext n l).getD (16 * q + (i + 9)) 0 + s1w ((ext n l).getD (16 * q + (i + 14)) 0)) % 4294967296 := by
  have e := ext_rec n l (16 * q + (i + 16)) (by omega) (by omega) (by omega)
  rw [show 16 * q + (i + 16) - 16 = 16 * q + i by omega, show 16 * q + (i + 16) - 15 = 16 * q + (i + 1) by omega, show 16 * q + (i + 16) - 7 = 16 * q + (i + 9) by omega, show 16 * q + (i + 16) - 2 = 16 * q + (i + 14) by omega] at e
  exact e

/-- an array of eight words, as a list of these -/
def a8 (L : List Nat) : Array Value := aa 8 (fun j => L.getD j 0)
theorem a8_eq (a b c d e f q h : Nat) : a8 [a, b, c, d, e, f, q, h] = #[.int .u32 (a : Int), .int .u32 (b : Int), .int .u32 (c : Int), .int .u32 (d : Int), .int .u32 (e : Int), .int .u32 (f : Int), .int .u32 (q : Int), .int .u32 (h : Int)] := rfl

theorem info33 : (Tryd.prog.info? 115).map (fun i => (i.zero, i.size, i.bytes)) = some (some (.int .u32 0), 1, 4) := by kernel_rfl
theorem index8 (w : World) (cs : Array Value) (m : Nat) (hm : m < 8) (v : Value) (hv : cs[m]? = some v) : (Instr.index 116 (.agg cs) (.int .i64 (m : Int))).run Tryd.prog w = .ok v w := by
  obtain ⟨i0, hi, hz0, hz1, hz2⟩ := info_parts info33
  have hag : (isAgg 115).run Tryd.prog w = .ok false w := by
    unfold isAgg
    rw [Sem.run_bind, run_underlying Tryd.underlying115 w]
    rfl
  have hso : (sizeOf 115).run Tryd.prog w = .ok 1 w := by simp [sizeOf, typeInfo, hi, hz1]
  have h1 : (0 : Int) ≤ (m : Int) ∧ (m : Int) < ((8 : Nat) : Int) := by omega
  unfold Instr.index
  simp only [asIntOf, Sem.run_bind, Sem.run_pure, Result.andThen_ok, run_underlying Tryd.underlying116 w]
  rw [if_pos h1]
  simp only [Sem.run_bind, hso, Result.andThen_ok, part, hag, Int.toNat_natCast, Nat.mul_one, hv]
  rfl

/-- a table of 64 constants stands where the program laid it -/
def Kc (w : World) (K : List Nat) : Prop := ∀ j, j < 64 → w.cell? ⟨5, j, none⟩ = some (.int .u32 ((K.getD j 0 : Nat) : Int))

theorem third_new (w : World) (A B C : Obj) : (((w.alloc A).alloc B).alloc C).heap[w.heap.size + 1 + 1]? = some C := by
  have h := heap_alloc_new ((w.alloc A).alloc B) C
  have e : ((w.alloc A).alloc B).heap.size = w.heap.size + 1 + 1 := by
    show ((w.heap.push A).push B).size = _
    simp
  rw [e] at h
  exact h
/-- what a block comes to -/
def sums (Z L : List Nat) : List Nat := List.zipWith (fun x y => (x + y) % 4294967296) Z L

/-- the words of a block by their number, and how each comes of those before -/
structure Wds (W : List Nat) (X : Nat → Nat) : Prop where
  len : W.length = 64
  get : ∀ i, i < 64 → W.getD i 0 = X i
  lt : ∀ i, X i < 4294967296
  next : ∀ q i, 16 * q + i < 48 → X (16 * q + (i + 16)) = (X (16 * q + i) + s0w (X (16 * q + (i + 1))) + X (16 * q + (i + 9)) + s1w (X (16 * q + (i + 14)))) % 4294967296

set_option maxRecDepth 1000000 in
set_option maxHeartbeats 4000000 in
theorem block_impl (w : World) (a0 b0 c0 d0 e0 f0 q0 h0 : Nat) (hH : ∀ x ∈ [a0, b0, c0, d0, e0, f0, q0, h0], x < 4294967296) (W : List Nat) (X : Nat → Nat) (hX : Wds W X) (K : List Nat) (hKn : K.length = 64) (hKb : ∀ x ∈ K, x < 4294967296) (hK : Kc w K) :
    Calls Tryd.prog 94 #[.agg (a8 [a0, b0, c0, d0, e0, f0, q0, h0]), .agg (aa 16 X)] w fun e w' => e = .returned (.agg (a8 (sums (rnds K W [a0, b0, c0, d0, e0, f0, q0, h0]) [a0, b0, c0, d0, e0, f0, q0, h0]))) ∧ Below w.heap.size w w' := by
  have hKl : 5 < w.heap.size := World.block_lt_of_cell? w ⟨5, 0, none⟩ (hK 0 (by omega))
  have HK : Hid (Kc w K ∧ K.length = 64 ∧ ∀ x ∈ K, x < 4294967296) := ⟨hK, hKn, hKb⟩
  have HX : Hid (Wds W X) := hX
  have HH : Hid (∀ x ∈ [a0, b0, c0, d0, e0, f0, q0, h0], x < 4294967296) := hH
  clear hK hKn hKb hX hH
  go_enter Tryd.func94, Tryd.ntmps94
  have R0 : Rw (((w.alloc (.cells (a8 [a0, b0, c0, d0, e0, f0, q0, h0]) 116)).alloc (.cells (aa 16 X) 118)).alloc (.cells #[.int .u32 0, .int .u32 0, .int .u32 0, .int .u32 0, .int .u32 0, .int .u32 0, .int .u32 0, .int .u32 0] 116)) w.heap.size 116 8 (fun j => [a0, b0, c0, d0, e0, f0, q0, h0].getD j 0) :=
    Rw.same (Rw.same (w := w.alloc (.cells (a8 [a0, b0, c0, d0, e0, f0, q0, h0]) 116)) (heap_alloc_new w _) ((Below.refl _ _).alloc (Nat.le_refl _) _)) ((Below.refl _ _).alloc (Nat.le_refl _) _)
  have R1 : Rw (((w.alloc (.cells (a8 [a0, b0, c0, d0, e0, f0, q0, h0]) 116)).alloc (.cells (aa 16 X) 118)).alloc (.cells #[.int .u32 0, .int .u32 0, .int .u32 0, .int .u32 0, .int .u32 0, .int .u32 0, .int .u32 0, .int .u32 0] 116)) (w.heap.size + 1) 118 16 X :=
    Rw.same (w := (w.alloc (.cells (a8 [a0, b0, c0, d0, e0, f0, q0, h0]) 116)).alloc (.cells (aa 16 X) 118)) (heap_alloc2_new w _ _) ((Below.refl _ _).alloc (Nat.le_refl _) _)
  have R2 : Rw (((w.alloc (.cells (a8 [a0, b0, c0, d0, e0, f0, q0, h0]) 116)).alloc (.cells (aa 16 X) 118)).alloc (.cells #[.int .u32 0, .int .u32 0, .int .u32 0, .int .u32 0, .int .u32 0, .int .u32 0, .int .u32 0, .int .u32 0] 116)) (w.heap.size + 1 + 1) 116 8 (fun _ => 0) :=
    third_new w _ _ _
  have B0 : Below w.heap.size w (((w.alloc (.cells (a8 [a0, b0, c0, d0, e0, f0, q0, h0]) 116)).alloc (.cells (aa 16 X) 118)).alloc (.cells #[.int .u32 0, .int .u32 0, .int .u32 0, .int .u32 0, .int .u32 0, .int .u32 0, .int .u32 0, .int .u32 0] 116)) :=
    (((Below.refl _ _).alloc (Nat.le_refl _) _).alloc (by simp) _).alloc (by simp; omega) _
  have HR0 : Hid _ := R0
  have HR1 : Hid _ := R1
  have HR2 : Hid _ := R2
  have HB0 : Hid _ := B0
  clear R0 R1 R2 B0
  go_wp2
  generalize (((w.alloc (.cells (a8 [a0, b0, c0, d0, e0, f0, q0, h0]) 116)).alloc (.cells (aa 16 X) 118)).alloc (.cells #[.int .u32 0, .int .u32 0, .int .u32 0, .int .u32 0, .int .u32 0, .int .u32 0, .int .u32 0, .int .u32 0] 116)) = w1 at HR0 HR1 HR2 HB0 ⊢
  have x0 : w1.cell? ⟨w.heap.size, 0, none⟩ = some (.int .u32 (a0 : Int)) := Rw.cell HR0.out 0 (by omega)
  have x1 : w1.cell? ⟨w.heap.size, 1, none⟩ = some (.int .u32 (b0 : Int)) := Rw.cell HR0.out 1 (by omega)
  have x2 : w1.cell? ⟨w.heap.size, 2, none⟩ = some (.int .u32 (c0 : Int)) := Rw.cell HR0.out 2 (by omega)
  have x3 : w1.cell? ⟨w.heap.size, 3, none⟩ = some (.int .u32 (d0 : Int)) := Rw.cell HR0.out 3 (by omega)
  have x4 : w1.cell? ⟨w.heap.size, 4, none⟩ = some (.int .u32 (e0 : Int)) := Rw.cell HR0.out 4 (by omega)
  have x5 : w1.cell? ⟨w.heap.size, 5, none⟩ = some (.int .u32 (f0 : Int)) := Rw.cell HR0.out 5 (by omega)
  have x6 : w1.cell? ⟨w.heap.size, 6, none⟩ = some (.int .u32 (q0 : Int)) := Rw.cell HR0.out 6 (by omega)
  have x7 : w1.cell? ⟨w.heap.size, 7, none⟩ = some (.int .u32 (h0 : Int)) := Rw.cell HR0.out 7 (by omega)
  go_quiet (fail)
  clear x0 x1 x2 x3 x4 x5 x6 x7
  go_wp2
  go_loopw [5, 6, 7, 8, 9, 10, 11, 12, 34] (fun va vb vc vd ve vf vq vh i wr => ∃ n a b c d e f q h : Nat, n ≤ 64 ∧ i = .int .i64 (n : Int) ∧ va = .int .u32 (a : Int) ∧ vb = .int .u32 (b : Int) ∧ vc = .int .u32 (c : Int) ∧ vd = .int .u32 (d : Int) ∧ ve = .int .u32 (e : Int) ∧ vf = .int .u32 (f : Int) ∧ vq = .int .u32 (q : Int) ∧ vh = .int .u32 (h : Int) ∧ Hid (∀ x ∈ [a, b, c, d, e, f, q, h], x < 4294967296) ∧ Hid (rnds (K.drop n) (W.drop n) [a, b, c, d, e, f, q, h] = rnds K W [a0, b0, c0, d0, e0, f0, q0, h0]) ∧ Rw wr w.heap.size 116 8 (fun j => [a0, b0, c0, d0, e0, f0, q0, h0].getD j 0) ∧ Rw wr (w.heap.size + 1) 118 16 (fun j => X (16 * ((n - 1) / 16) + j)) ∧ Rw wr (w.heap.size + 1 + 1) 116 8 (fun _ => 0) ∧ Below w.heap.size w wr) (fun _ _ _ _ _ _ _ _ i _ => 64 - (intOf i).toNat)
  case atStart => exact ⟨0, a0, b0, c0, d0, e0, f0, q0, h0, by omega, rfl, rfl, rfl, rfl, rfl, rfl, rfl, rfl, rfl, HH, rfl, HR0.out, Rw.congr (F := X) HR1.out (fun i hi => by simp), HR2.out, below_drewN HB0.out _⟩
  case round =>
    obtain ⟨n, a, b, c, d, e, f, q, h, hn, rfl, rfl, rfl, rfl, rfl, rfl, rfl, rfl, rfl, hb8, HE, y0, y1, y2, hb⟩ := hrel
    clear HR0 HR1 HR2 HB0
    by_cases hlt : n < 64
    · by_cases hc : 0 < n ∧ n % 16 = 0
      · have hd1 : decide (0 < (n : Int)) = true := by simp; omega
        have hd2 : ((n : Int) % 16 == 0) = true := by simp; omega
        have hd3 : ((n : Int).tmod 16 == 0) = true := by rw [Int.tmod_eq_emod_of_nonneg (by omega)]; exact hd2
        have hnx := next_impl wr (fun j => X (16 * ((n - 1) / 16) + j)) (fun i hi => HX.out.next ((n - 1) / 16) i (by omega)) (fun i hi => HX.out.lt _)
        go_wp2_with (refine wpList_load_row rfl 118 _ rfl (w.heap.size + 1) rfl 118 (aa 16 (fun j => X (16 * ((n - 1) / 16) + j))) (0, 0) _ y1 Tryd.underlying118 rfl (size16 _) ?_)
        refine hnx.mono ?_
        rintro e' w5 ⟨rfl, b5⟩
        have x0 := y0.same b5
        have x1 := y1.same b5
        have x2 := y2.same b5
        have xb := hb.trans (b5.mono hb.size)
        clear hnx y0 y1 y2 hb b5
        go_wp2_with (refine wpList_store_row rfl 118 _ _ rfl (w.heap.size + 1) (aa 16 (fun i => X (16 * ((n - 1) / 16) + (i + 16)))) rfl rfl 118 _ x1 (size16 _) (by rw [aa_size, aa_size]) (aa_one _ _) ?_)
        obtain ⟨wz, hwz⟩ : ∃ z, z = w5.setRow (w.heap.size + 1) (aa 16 (fun i => X (16 * ((n - 1) / 16) + (i + 16)))) := ⟨_, rfl⟩
        have z0 : Rw wz w.heap.size 116 8 (fun j => [a0, b0, c0, d0, e0, f0, q0, h0].getD j 0) := by rw [hwz]; exact x0.rowOther (by omega) _
        have z1 : Rw wz (w.heap.size + 1) 118 16 (fun j => X (16 * (n / 16) + j)) := by rw [hwz]; exact Rw.congr (Rw.row x1) (fun i hi => by congr 1; omega)
        have z2 : Rw wz (w.heap.size + 1 + 1) 116 8 (fun _ => 0) := by rw [hwz]; exact x2.rowOther (by omega) _
        have hbz : Below w.heap.size w wz := by rw [hwz]; exact below_setRow xb (by omega) _
        rw [← hwz]
        clear hwz x0 x1 x2 xb hd1 hd2 hd3
        have kk : wz.cell? ⟨5, n, none⟩ = some (.int .u32 ((K.getD n 0 : Nat) : Int)) := by
          rw [hbz.cell (p := ⟨5, n, none⟩) hKl]; exact HK.out.1 n hlt
        have lk : K.getD n 0 < 4294967296 := getD_lt HK.out.2.2 n
        obtain ⟨m, hm⟩ : ∃ m : Nat, n % 16 = m := ⟨_, rfl⟩
        have hm16 : m < 16 := by omega
        have kw : wz.cell? ⟨w.heap.size + 1, m, none⟩ = some (.int .u32 ((X n : Nat) : Int)) := by
          have := Rw.cell z1 m hm16
          rw [show 16 * (n / 16) + m = n by omega] at this
          exact this
        have lw := HX.out.lt n
        have HR : Hid (rnds (K.drop (n + 1)) (W.drop (n + 1)) (rnd8 a b c d e f q h (K.getD n 0) (X n)) = rnds K W [a0, b0, c0, d0, e0, f0, q0, h0]) := by
          show _ = _
          rw [← HE.out, drop_nat (L := K) (k := n) (by rw [HK.out.2.1]; exact hlt), drop_nat (L := W) (k := n) (by rw [HX.out.len]; exact hlt), HX.out.get n hlt, rnds]
        obtain ⟨kn, ekn⟩ : ∃ z, K.getD n 0 = z := ⟨_, rfl⟩
        obtain ⟨wn, ewn⟩ : ∃ z, X n = z := ⟨_, rfl⟩
        rw [ekn] at kk lk HR
        rw [ewn] at kw lw HR
        have la : a < 4294967296 := hb8.out a (by simp)
        have lb : b < 4294967296 := hb8.out b (by simp)
        have lc : c < 4294967296 := hb8.out c (by simp)
        have ld : d < 4294967296 := hb8.out d (by simp)
        have le : e < 4294967296 := hb8.out e (by simp)
        have lf : f < 4294967296 := hb8.out f (by simp)
        have lq : q < 4294967296 := hb8.out q (by simp)
        have lh : h < 4294967296 := hb8.out h (by simp)
        have p1 : ∀ w, _ := fun w => b1_impl w e le
        have p2 : ∀ w, _ := fun w => ch_impl w e f q le lf lq
        have p3 : ∀ w, _ := fun w => b0_impl w a la
        have p4 : ∀ w, _ := fun w => maj_impl w a b c la lb lc
        have v0 : (0 : Int) ≤ (n : Int) := by omega
        have v1 : (n : Int) < 64 := by omega
        have v2 : (n : Int).tmod 16 = (m : Int) := by rw [Int.tmod_eq_emod_of_nonneg (by omega)]; omega
        have v3 : (0 : Int) ≤ (m : Int) := by omega
        have v4 : (m : Int) < 16 := by omega
        have HB8 : Hid (∀ x ∈ rnd8 a b c d e f q h kn wn, x < 4294967296) := by
          intro x hx
          simp only [rnd8, List.mem_cons, List.not_mem_nil, or_false] at hx
          rcases hx with rfl | rfl | rfl | rfl | rfl | rfl | rfl | rfl
          · exact Nat.mod_lt _ (by decide)
          · exact la
          · exact lb
          · exact lc
          · exact Nat.mod_lt _ (by decide)
          · exact le
          · exact lf
          · exact lq
        clear ekn ewn hm hm16 HE
        go_quiet (first | (go_at_call 107; exact quiet_eq (p1 _)) | (go_at_call 108; exact quiet_eq (p2 _)))
        generalize nq = N1
        go_wp2_with fail
        refine (p3 _).mono ?_
        rintro e' w' ⟨rfl, rfl⟩
        go_wp2_with fail
        refine (p4 _).mono ?_
        rintro e' w' ⟨rfl, rfl⟩
        clear p1 p2 p3 p4 v2 v3 v4 kk kw
        go_wp2_with fail
        go_roundw
        case rel =>
          exact ⟨n + 1, (t1 e f q h kn wn + t2 a b c) % 4294967296, a, b, c, (d + t1 e f q h kn wn) % 4294967296, e, f, q, by omega, by go_num, congrArg (Value.int .u32) (by unfold t1 t2; omega), rfl, rfl, rfl, congrArg (Value.int .u32) (by unfold t1; omega), rfl, rfl, rfl, HB8, HR, z0, Rw.congr z1 (fun i hi => by rw [Nat.add_sub_cancel]), z2, below_drewN hbz _⟩
        case measure => simp [intOf]; omega
      · obtain ⟨wz, hwz⟩ : ∃ z, z = wr := ⟨_, rfl⟩
        have z0 : Rw wz w.heap.size 116 8 (fun j => [a0, b0, c0, d0, e0, f0, q0, h0].getD j 0) := by rw [hwz]; exact y0
        have z1 : Rw wz (w.heap.size + 1) 118 16 (fun j => X (16 * (n / 16) + j)) := by rw [hwz]; exact Rw.congr y1 (fun i hi => by congr 1; omega)
        have z2 : Rw wz (w.heap.size + 1 + 1) 116 8 (fun _ => 0) := by rw [hwz]; exact y2
        have hbz : Below w.heap.size w wz := by rw [hwz]; exact hb
        by_cases hn0 : 0 < n
        · have hd1 : decide (0 < (n : Int)) = true := by simp; omega
          have hd2 : ((n : Int) % 16 == 0) = false := by simp; omega
          have hd3 : ((n : Int).tmod 16 == 0) = false := by rw [Int.tmod_eq_emod_of_nonneg (by omega)]; exact hd2
          go_wp2_with fail
          rw [← hwz]
          clear hwz y0 y1 y2 hb hd1 hd2 hd3
          have kk : wz.cell? ⟨5, n, none⟩ = some (.int .u32 ((K.getD n 0 : Nat) : Int)) := by
            rw [hbz.cell (p := ⟨5, n, none⟩) hKl]; exact HK.out.1 n hlt
          have lk : K.getD n 0 < 4294967296 := getD_lt HK.out.2.2 n
          obtain ⟨m, hm⟩ : ∃ m : Nat, n % 16 = m := ⟨_, rfl⟩
          have hm16 : m < 16 := by omega
          have kw : wz.cell? ⟨w.heap.size + 1, m, none⟩ = some (.int .u32 ((X n : Nat) : Int)) := by
            have := Rw.cell z1 m hm16
            rw [show 16 * (n / 16) + m = n by omega] at this
            exact this
          have lw := HX.out.lt n
          have HR : Hid (rnds (K.drop (n + 1)) (W.drop (n + 1)) (rnd8 a b c d e f q h (K.getD n 0) (X n)) = rnds K W [a0, b0, c0, d0, e0, f0, q0, h0]) := by
            show _ = _
            rw [← HE.out, drop_nat (L := K) (k := n) (by rw [HK.out.2.1]; exact hlt), drop_nat (L := W) (k := n) (by rw [HX.out.len]; exact hlt), HX.out.get n hlt, rnds]
          obtain ⟨kn, ekn⟩ : ∃ z, K.getD n 0 = z := ⟨_, rfl⟩
          obtain ⟨wn, ewn⟩ : ∃ z, X n = z := ⟨_, rfl⟩
          rw [ekn] at kk lk HR
          rw [ewn] at kw lw HR
          have la : a < 4294967296 := hb8.out a (by simp)
          have lb : b < 4294967296 := hb8.out b (by simp)
          have lc : c < 4294967296 := hb8.out c (by simp)
          have ld : d < 4294967296 := hb8.out d (by simp)
          have le : e < 4294967296 := hb8.out e (by simp)
          have lf : f < 4294967296 := hb8.out f (by simp)
          have lq : q < 4294967296 := hb8.out q (by simp)
          have lh : h < 4294967296 := hb8.out h (by simp)
          have p1 : ∀ w, _ := fun w => b1_impl w e le
          have p2 : ∀ w, _ := fun w => ch_impl w e f q le lf lq
          have p3 : ∀ w, _ := fun w => b0_impl w a la
          have p4 : ∀ w, _ := fun w => maj_impl w a b c la lb lc
          have v0 : (0 : Int) ≤ (n : Int) := by omega
          have v1 : (n : Int) < 64 := by omega
          have v2 : (n : Int).tmod 16 = (m : Int) := by rw [Int.tmod_eq_emod_of_nonneg (by omega)]; omega
          have v3 : (0 : Int) ≤ (m : Int) := by omega
          have v4 : (m : Int) < 16 := by omega
          have HB8 : Hid (∀ x ∈ rnd8 a b c d e f q h kn wn, x < 4294967296) := by
            intro x hx
            simp only [rnd8, List.mem_cons, List.not_mem_nil, or_false] at hx
            rcases hx with rfl | rfl | rfl | rfl | rfl | rfl | rfl | rfl
            · exact Nat.mod_lt _ (by decide)
            · exact la
            · exact lb
            · exact lc
            · exact Nat.mod_lt _ (by decide)
            · exact le
            · exact lf
            · exact lq
          clear ekn ewn hm hm16 HE
          go_quiet (first | (go_at_call 107; exact quiet_eq (p1 _)) | (go_at_call 108; exact quiet_eq (p2 _)))
          generalize nq = N1
          go_wp2_with fail
          refine (p3 _).mono ?_
          rintro e' w' ⟨rfl, rfl⟩
          go_wp2_with fail
          refine (p4 _).mono ?_
          rintro e' w' ⟨rfl, rfl⟩
          clear p1 p2 p3 p4 v2 v3 v4 kk kw
          go_wp2_with fail
          go_roundw
          case rel =>
            exact ⟨n + 1, (t1 e f q h kn wn + t2 a b c) % 4294967296, a, b, c, (d + t1 e f q h kn wn) % 4294967296, e, f, q, by omega, by go_num, congrArg (Value.int .u32) (by unfold t1 t2; omega), rfl, rfl, rfl, congrArg (Value.int .u32) (by unfold t1; omega), rfl, rfl, rfl, HB8, HR, z0, Rw.congr z1 (fun i hi => by rw [Nat.add_sub_cancel]), z2, below_drewN hbz _⟩
          case measure => simp [intOf]; omega
        · have hd1 : decide (0 < (n : Int)) = false := by simp; omega
          go_wp2_with fail
          rw [← hwz]
          clear hwz y0 y1 y2 hb hd1
          have kk : wz.cell? ⟨5, n, none⟩ = some (.int .u32 ((K.getD n 0 : Nat) : Int)) := by
            rw [hbz.cell (p := ⟨5, n, none⟩) hKl]; exact HK.out.1 n hlt
          have lk : K.getD n 0 < 4294967296 := getD_lt HK.out.2.2 n
          obtain ⟨m, hm⟩ : ∃ m : Nat, n % 16 = m := ⟨_, rfl⟩
          have hm16 : m < 16 := by omega
          have kw : wz.cell? ⟨w.heap.size + 1, m, none⟩ = some (.int .u32 ((X n : Nat) : Int)) := by
            have := Rw.cell z1 m hm16
            rw [show 16 * (n / 16) + m = n by omega] at this
            exact this
          have lw := HX.out.lt n
          have HR : Hid (rnds (K.drop (n + 1)) (W.drop (n + 1)) (rnd8 a b c d e f q h (K.getD n 0) (X n)) = rnds K W [a0, b0, c0, d0, e0, f0, q0, h0]) := by
            show _ = _
            rw [← HE.out, drop_nat (L := K) (k := n) (by rw [HK.out.2.1]; exact hlt), drop_nat (L := W) (k := n) (by rw [HX.out.len]; exact hlt), HX.out.get n hlt, rnds]
          obtain ⟨kn, ekn⟩ : ∃ z, K.getD n 0 = z := ⟨_, rfl⟩
          obtain ⟨wn, ewn⟩ : ∃ z, X n = z := ⟨_, rfl⟩
          rw [ekn] at kk lk HR
          rw [ewn] at kw lw HR
          have la : a < 4294967296 := hb8.out a (by simp)
          have lb : b < 4294967296 := hb8.out b (by simp)
          have lc : c < 4294967296 := hb8.out c (by simp)
          have ld : d < 4294967296 := hb8.out d (by simp)
          have le : e < 4294967296 := hb8.out e (by simp)
          have lf : f < 4294967296 := hb8.out f (by simp)
          have lq : q < 4294967296 := hb8.out q (by simp)
          have lh : h < 4294967296 := hb8.out h (by simp)
          have p1 : ∀ w, _ := fun w => b1_impl w e le
          have p2 : ∀ w, _ := fun w => ch_impl w e f q le lf lq
          have p3 : ∀ w, _ := fun w => b0_impl w a la
          have p4 : ∀ w, _ := fun w => maj_impl w a b c la lb lc
          have v0 : (0 : Int) ≤ (n : Int) := by omega
          have v1 : (n : Int) < 64 := by omega
          have v2 : (n : Int).tmod 16 = (m : Int) := by rw [Int.tmod_eq_emod_of_nonneg (by omega)]; omega
          have v3 : (0 : Int) ≤ (m : Int) := by omega
          have v4 : (m : Int) < 16 := by omega
          have HB8 : Hid (∀ x ∈ rnd8 a b c d e f q h kn wn, x < 4294967296) := by
            intro x hx
            simp only [rnd8, List.mem_cons, List.not_mem_nil, or_false] at hx
            rcases hx with rfl | rfl | rfl | rfl | rfl | rfl | rfl | rfl
            · exact Nat.mod_lt _ (by decide)
            · exact la
            · exact lb
            · exact lc
            · exact Nat.mod_lt _ (by decide)
            · exact le
            · exact lf
            · exact lq
          clear ekn ewn hm hm16 HE
          go_quiet (first | (go_at_call 107; exact quiet_eq (p1 _)) | (go_at_call 108; exact quiet_eq (p2 _)))
          generalize nq = N1
          go_wp2_with fail
          refine (p3 _).mono ?_
          rintro e' w' ⟨rfl, rfl⟩
          go_wp2_with fail
          refine (p4 _).mono ?_
          rintro e' w' ⟨rfl, rfl⟩
          clear p1 p2 p3 p4 v2 v3 v4 kk kw
          go_wp2_with fail
          go_roundw
          case rel =>
            exact ⟨n + 1, (t1 e f q h kn wn + t2 a b c) % 4294967296, a, b, c, (d + t1 e f q h kn wn) % 4294967296, e, f, q, by omega, by go_num, congrArg (Value.int .u32) (by unfold t1 t2; omega), rfl, rfl, rfl, congrArg (Value.int .u32) (by unfold t1; omega), rfl, rfl, rfl, HB8, HR, z0, Rw.congr z1 (fun i hi => by rw [Nat.add_sub_cancel]), z2, below_drewN hbz _⟩
          case measure => simp [intOf]; omega
    · have hn64 : n = 64 := by omega
      have HZ : Hid ([a, b, c, d, e, f, q, h] = rnds K W [a0, b0, c0, d0, e0, f0, q0, h0]) := by
        have h1 := HE.out
        rw [hn64, List.drop_eq_nil_of_le (show K.length ≤ 64 by rw [HK.out.2.1]; omega), rnds] at h1
        · exact h1
        · intro k ks x xs a b c d e f q h h1
          cases h1
      obtain ⟨L, hL⟩ : ∃ L, L = [a0, b0, c0, d0, e0, f0, q0, h0] := ⟨_, rfl⟩
      have hLl : L.length = 8 := by rw [hL]; rfl
      have hLb : ∀ x ∈ L, x < 4294967296 := by rw [hL]; exact HH.out
      have HF : Hid (sums [a, b, c, d, e, f, q, h] L = sums (rnds K W [a0, b0, c0, d0, e0, f0, q0, h0]) [a0, b0, c0, d0, e0, f0, q0, h0]) := by
        show _ = _; rw [HZ.out, hL]
      have y0' : Rw wr w.heap.size 116 8 (fun j => if j < 0 then (sums [a, b, c, d, e, f, q, h] L).getD j 0 else L.getD j 0) := Rw.congr y0 (fun i hi => by rw [if_neg (by omega), hL])
      clear hL HE y0 y1 hlt hn
      go_wp2
      rw [← a8_eq a b c d e f q h]
      obtain ⟨Z, hZ⟩ : ∃ Z, Z = [a, b, c, d, e, f, q, h] := ⟨_, rfl⟩
      have hZl : Z.length = 8 := by rw [hZ]; rfl
      have hZb : ∀ x ∈ Z, x < 4294967296 := by rw [hZ]; exact hb8.out
      rw [← hZ] at HF y0' ⊢
      have HLZ : Hid (L.length = 8 ∧ Z.length = 8 ∧ (∀ x ∈ L, x < 4294967296) ∧ ∀ x ∈ Z, x < 4294967296) := ⟨hLl, hZl, hLb, hZb⟩
      clear hZ hb8 HZ hn64 hLl hZl hLb hZb
      go_loopw [93] (fun i w' => ∃ m : Nat, m ≤ 8 ∧ i = .int .i64 (m : Int) ∧ Rw w' w.heap.size 116 8 (fun j => if j < m then (sums Z L).getD j 0 else L.getD j 0) ∧ Rw w' (w.heap.size + 1 + 1) 116 8 (fun _ => 0) ∧ Below w.heap.size w w') (fun i _ => 8 - (intOf i).toNat)
      case atStart => exact ⟨0, by omega, rfl, y0', y2, hb⟩
      case round =>
        obtain ⟨m, hm, rfl, k0, k2, hbm⟩ := hrel
        clear y0' y2 hb
        by_cases hlt : m < 8
        · have cz : (a8 Z)[m]? = some (.int .u32 ((Z.getD m 0 : Nat) : Int)) := aa_get 8 _ m hlt
          have cs := Rw.cell k0 m hlt
          rw [if_neg (Nat.lt_irrefl _)] at cs
          have cf := Rw.frozen k0 m
          have lz : Z.getD m 0 < 4294967296 := getD_lt HLZ.out.2.2.2 m
          have ll : L.getD m 0 < 4294967296 := getD_lt HLZ.out.2.2.1 m
          have hs : (sums Z L).getD m 0 = (Z.getD m 0 + L.getD m 0) % 4294967296 := by
            unfold sums
            have h1 : m < Z.length := by rw [HLZ.out.2.1]; exact hlt
            have h2 : m < L.length := by rw [HLZ.out.1]; exact hlt
            simp [List.getD, List.getElem?_zipWith, h1, h2]
          have HS : Hid (Rw (wr.setCell ⟨w.heap.size, m, none⟩ (.int .u32 (((sums Z L).getD m 0 : Nat) : Int))) w.heap.size 116 8 (fun j => if j < m + 1 then (sums Z L).getD j 0 else L.getD j 0)) := Rw.congr (k0.set m ((sums Z L).getD m 0)) (fun j hj => by
            by_cases e : j = m
            · subst e; rw [if_pos rfl, if_pos (by omega)]
            · rw [if_neg e]
              by_cases hjk : j < m
              · rw [if_pos hjk, if_pos (by omega)]
              · rw [if_neg hjk, if_neg (by omega)])
          rw [hs] at HS
          have HS2 : Hid _ := k2.setOther w.heap.size m (by omega) (.int .u32 (((Z.getD m 0 + L.getD m 0) % 4294967296 : Nat) : Int))
          have HB2 : Hid _ := hbm.setCell (p := ⟨w.heap.size, m, none⟩) (Nat.le_refl _) (.int .u32 (((Z.getD m 0 + L.getD m 0) % 4294967296 : Nat) : Int))
          obtain ⟨zm, ezm⟩ : ∃ z, Z.getD m 0 = z := ⟨_, rfl⟩
          obtain ⟨lm, elm⟩ : ∃ z, L.getD m 0 = z := ⟨_, rfl⟩
          rw [ezm] at cz lz
          rw [elm] at cs ll
          rw [ezm, elm] at HS HS2 HB2
          have hix : ∀ w, (Instr.index 116 (.agg (a8 Z)) (.int .i64 (m : Int))).run Tryd.prog w = .ok (.int .u32 (zm : Int)) w := fun w => index8 w _ m hlt _ cz
          have hsw : ((lm : Int) + (zm : Int)) % 4294967296 = (((zm + lm) % 4294967296 : Nat) : Int) := by omega
          clear hs ezm elm k0 k2 hbm cz
          go_wp2
          go_roundw
          case rel => exact ⟨m + 1, by omega, by go_num, HS.out, HS2.out, HB2.out⟩
          case measure => simp [intOf]; omega
        · have hm8 : m = 8 := by omega
          subst hm8
          have HG : Hid (Rw wr w.heap.size 116 8 (fun j => (sums Z L).getD j 0)) := Rw.congr k0 (fun i hi => by rw [if_pos hi])
          clear k0
          have e8 : aa 8 (fun j => (sums Z L).getD j 0) = a8 (sums Z L) := rfl
          go_wp2_with (first | (refine wpList_load_row rfl 116 _ rfl w.heap.size rfl 116 (aa 8 (fun j => (sums Z L).getD j 0)) (0, 0) _ HG.out Tryd.underlying116 rfl (size8 _) ?_) | (refine wpList_store_row rfl 116 _ _ rfl (w.heap.size + 1 + 1) (aa 8 (fun j => (sums Z L).getD j 0)) rfl rfl 116 (aa 8 fun _ => 0) k2 (size8 _) (by rw [aa_size, aa_size]) (aa_one _ _) ?_))
          rw [← HF.out]
          exact bodyPost_ret (v := .agg (aa 8 (fun j => (sums Z L).getD j 0))) (results_cell_row rfl _ _ (w.heap.size + 1 + 1) 116 _ (0, 0) _ rfl (Rw.row k2) Tryd.underlying116 rfl (size8 _)) rfl ⟨rfl, below_setRow hbm (by omega) _⟩

end Go.Proofs.YtccnhhdcdamgmaaDoor.Sha

/- Contracts of the program's words of a block, of the next sixteen, and of a block: arrays of words that are turned in place. -/
import Derived.Test.YtccnhhdcdamgmaaDoorShaB
import Derived.Test.YtccnhhdcdamgmaaDoorShaA
import Derived.Test.YtccnhhdcdamgmaaDoorSha4
import Derived.Laws.Rows
import Derived.BigRegion
import Derived.StillTailTactics
namespace Go.Proofs.YtccnhhdcdamgmaaDoor.Sha
open Go.RowKit Go.Proofs.YtccnhhdcdamgmaaDoor.Mem Go.Proofs.YtccnhhdcdamgmaaDoor.Laws Go.Proofs.YtccnhhdcdamgmaaDoor.Bytes
set_option linter.unusedVariables false
set_option linter.unusedSimpArgs false

/-- n words as an array's cells -/
def aa (n : Nat) (F : Nat → Nat) : Array Value := ((List.range n).map fun j => Value.int .u32 ((F j : Nat) : Int)).toArray
theorem aa_size (n : Nat) (F : Nat → Nat) : (aa n F).size = n := by simp [aa]
theorem aa_get (n : Nat) (F : Nat → Nat) (i : Nat) (h : i < n) : (aa n F)[i]? = some (.int .u32 ((F i : Nat) : Int)) := by simp [aa, h]
theorem aa_congr {n : Nat} {F G : Nat → Nat} (h : ∀ i, i < n → F i = G i) : aa n F = aa n G := by
  unfold aa
  congr 1
  apply List.map_congr_left
  intro i hi
  rw [h i (by simpa using hi)]
theorem aa_one (n : Nat) (F : Nat → Nat) : (aa n F).all (·.oneCell') = true := by
  rw [Array.all_eq_true_iff_forall_mem]
  intro x hx
  simp only [aa, List.mem_toArray, List.mem_map] at hx
  obtain ⟨j, _, rfl⟩ := hx
  rfl
theorem aa_set (n : Nat) (F : Nat → Nat) (i x : Nat) : (aa n F).setIfInBounds i (.int .u32 (x : Int)) = aa n (fun j => if j = i then x else F j) := by
  apply Array.ext_getElem?
  intro j
  rw [Array.getElem?_setIfInBounds]
  by_cases hj : j < n
  · have hG := aa_get n (fun j => if j = i then x else F j) j hj
    rw [hG, aa_get n F j hj, aa_size]
    by_cases e : i = j
    · subst e; rw [if_pos rfl, if_pos rfl, if_pos hj]
    · have e' : ¬ j = i := fun h => e h.symm
      rw [if_neg e, if_neg e']
  · have h1 : (aa n (fun j => if j = i then x else F j))[j]? = none := Array.getElem?_eq_none (by rw [aa_size]; omega)
    have h2 : (aa n F)[j]? = none := Array.getElem?_eq_none (by rw [aa_size]; omega)
    rw [h1, h2]
    simp [aa_size]
    omega

/-- block g holds an array of n words -/
def Rw (w : World) (g : Nat) (t : TypeId) (n : Nat) (F : Nat → Nat) : Prop := w.heap[g]? = some (.cells (aa n F) t (0, 0))
theorem Rw.cell {w : World} {g : Nat} {t : TypeId} {n : Nat} {F : Nat → Nat} (h : Rw w g t n F) (i : Nat) (hi : i < n) : w.cell? ⟨g, i, none⟩ = some (.int .u32 ((F i : Nat) : Int)) := by
  rw [cell_of_row w g i _ t (0, 0) h, aa_get n F i hi]
theorem Rw.frozen {w : World} {g : Nat} {t : TypeId} {n : Nat} {F : Nat → Nat} (h : Rw w g t n F) (i : Nat) : w.frozen? ⟨g, i, none⟩ = false := by
  have h' : w.heap[g]? = some (.cells (aa n F) t (0, 0)) := h
  simp [World.frozen?, h']
theorem Rw.set {w : World} {g : Nat} {t : TypeId} {n : Nat} {F : Nat → Nat} (h : Rw w g t n F) (i x : Nat) : Rw (w.setCell ⟨g, i, none⟩ (.int .u32 (x : Int))) g t n (fun j => if j = i then x else F j) := by
  have h' : w.heap[g]? = some (.cells (aa n F) t (0, 0)) := h
  show _ = _
  rw [← aa_set]
  simp [World.setCell, Array.getElem?_modify, h']
theorem Rw.setOther {w : World} {g : Nat} {t : TypeId} {n : Nat} {F : Nat → Nat} (h : Rw w g t n F) (b i : Nat) (hb : g ≠ b) (v : Value) : Rw (w.setCell ⟨b, i, none⟩ v) g t n F := by
  show _ = _
  rw [Below.heap_setCell _ _ _ _ (by exact hb)]
  exact h
theorem Rw.later {w w' : World} {g B : Nat} {t : TypeId} {n : Nat} {F : Nat → Nat} (h : Rw w g t n F) (hb : Below B w w') (hg : g < B) : Rw w' g t n F := (hb.block g hg).trans h
theorem Rw.lt {w : World} {g : Nat} {t : TypeId} {n : Nat} {F : Nat → Nat} (h : Rw w g t n F) : g < w.heap.size := (Array.getElem?_eq_some_iff.1 h).1
theorem Rw.same {w w' : World} {g : Nat} {t : TypeId} {n : Nat} {F : Nat → Nat} (h : Rw w g t n F) (hw : Below w.heap.size w w') : Rw w' g t n F := h.later hw h.lt
theorem Rw.congr {w : World} {g : Nat} {t : TypeId} {n : Nat} {F G : Nat → Nat} (h : Rw w g t n F) (e : ∀ i, i < n → F i = G i) : Rw w g t n G := by
  unfold Rw at *
  rw [← aa_congr e]
  exact h
theorem Rw.row {w : World} {g : Nat} {t : TypeId} {n : Nat} {F G : Nat → Nat} (h : Rw w g t n F) : Rw (w.setRow g (aa n G)) g t n G := setRow_heap w g _ _ t _ h
theorem Rw.rowOther {w : World} {g b : Nat} {t : TypeId} {n : Nat} {F : Nat → Nat} (h : Rw w g t n F) (hb : g ≠ b) (cs : Array Value) : Rw (w.setRow b cs) g t n F := by
  show (w.setRow b cs).heap[g]? = _
  unfold World.setRow
  simp only [Array.getElem?_modify]
  rw [if_neg (by omega)]
  exact h
theorem size16 (F : Nat → Nat) : (Tryd.prog.info? 118).map (·.size) = some (aa 16 F).size := by rw [aa_size]; kernel_rfl
theorem size8 (F : Nat → Nat) : (Tryd.prog.info? 116).map (·.size) = some (aa 8 F).size := by rw [aa_size]; kernel_rfl

theorem wd_bits32 (a b c d : Nat) (ha : a < 256) (hb : b < 256) (hc : c < 256) (hd : d < 256) :
    bits .or .u32 (bits .or .u32 (bits .or .u32 ((a : Int) * 16777216) ((b : Int) * 65536)) ((c : Int) * 256)) (d : Int) = ((((a * 16777216 ||| b * 65536) ||| c * 256) ||| d : Nat) : Int) := by
  have e1 : (a : Int) * 16777216 = ((a * 16777216 : Nat) : Int) := by omega
  have e2 : (b : Int) * 65536 = ((b * 65536 : Nat) : Int) := by omega
  have e3 : (c : Int) * 256 = ((c * 256 : Nat) : Int) := by omega
  have l1 : a * 16777216 ||| b * 65536 < 2 ^ 32 := Nat.or_lt_two_pow (by omega) (by omega)
  have l2 : (a * 16777216 ||| b * 65536) ||| c * 256 < 2 ^ 32 := Nat.or_lt_two_pow l1 (by omega)
  rw [e1, e2, e3, or32 (by omega) (by omega), or32 (by omega) (by omega), or32 (by omega) (by omega)]

set_option maxRecDepth 1000000 in
set_option maxHeartbeats 2000000 in
theorem words_impl (w : World) (b N cap t : Nat) (ys : List Int) (hy : ys.length = 64) (hby : Byt ys) (hN : 64 * t + 64 ≤ N) (hNb : N ≤ 2000000000000) (hcap : N ≤ cap)
    (hcells : ∀ j, j < ys.length → w.cell? ⟨b, 64 * t + j, none⟩ = (bs ys)[j]?) :
    Calls Tryd.prog 95 #[.slice (some ⟨b, 0, none⟩) N cap, .int .i64 (64 * (t : Int))] w fun e w' => e = .returned (.agg (aa 16 (wd ys))) ∧ Below w.heap.size w w' := by
  have hbl : b < w.heap.size := World.block_lt_of_cell? w ⟨b, 64 * t + 0, none⟩ (byte_cell hby hcells 0 (by omega))
  have r0 : Rw ((w.alloc (.cells (aa 16 fun _ => 0) 118)).alloc (.cells (aa 16 fun _ => 0) 118)) w.heap.size 118 16 (fun _ => 0) := Rw.same (w := w.alloc (.cells (aa 16 fun _ => 0) 118)) (heap_alloc_new w _) ((Below.refl _ _).alloc (Nat.le_refl _) _)
  have r1 : Rw ((w.alloc (.cells (aa 16 fun _ => 0) 118)).alloc (.cells (aa 16 fun _ => 0) 118)) (w.heap.size + 1) 118 16 (fun j => if j < 0 then wd ys j else 0) := heap_alloc2_new w _ _
  have hb0 : Below w.heap.size w ((w.alloc (.cells (aa 16 fun _ => 0) 118)).alloc (.cells (aa 16 fun _ => 0) 118)) := ((Below.refl _ _).alloc (Nat.le_refl _) _).alloc (by simp) _
  have R0 : Hid _ := r0
  have R1 : Hid _ := r1
  have B0 : Hid _ := hb0
  clear r0 r1 hb0
  go_enter Tryd.func95, Tryd.ntmps95
  go_wp2
  go_loopw [8] (fun i wr => ∃ k : Nat, k ≤ 16 ∧ i = .int .i64 (k : Int) ∧ Rw wr (w.heap.size + 1) 118 16 (fun j => if j < k then wd ys j else 0) ∧ Rw wr w.heap.size 118 16 (fun _ => 0) ∧ Below w.heap.size w wr) (fun i _ => 16 - (intOf i).toNat)
  case atStart => exact ⟨0, Nat.zero_le _, rfl, R1.out, R0.out, B0.out⟩
  case round =>
    obtain ⟨k, hk, rfl, h1, h0, hb⟩ := hrel
    clear R0 R1 B0
    by_cases hlt : k < 16
    · have cell : ∀ j, j < 64 → wr.cell? ⟨b, 64 * t + j, none⟩ = some (.int .u8 (nb ys j : Nat)) := fun j hj => by
        rw [hb.cell (p := ⟨b, 64 * t + j, none⟩) hbl]; exact byte_cell hby hcells j (by omega)
      have k0 := cell (4 * k) (by omega)
      have k1 : wr.cell? ⟨b, 64 * t + 4 * k + 1, none⟩ = _ := cell (4 * k + 1) (by omega)
      have k2 : wr.cell? ⟨b, 64 * t + 4 * k + 2, none⟩ = _ := cell (4 * k + 2) (by omega)
      have k3 : wr.cell? ⟨b, 64 * t + 4 * k + 3, none⟩ = _ := cell (4 * k + 3) (by omega)
      have n0 := nb_lt hby (4 * k)
      have n1 := nb_lt hby (4 * k + 1)
      have n2 := nb_lt hby (4 * k + 2)
      have n3 := nb_lt hby (4 * k + 3)
      obtain ⟨q0, e0⟩ : ∃ q, nb ys (4 * k) = q := ⟨_, rfl⟩
      obtain ⟨q1, e1⟩ : ∃ q, nb ys (4 * k + 1) = q := ⟨_, rfl⟩
      obtain ⟨q2, e2⟩ : ∃ q, nb ys (4 * k + 2) = q := ⟨_, rfl⟩
      obtain ⟨q3, e3⟩ : ∃ q, nb ys (4 * k + 3) = q := ⟨_, rfl⟩
      have HW : Hid (wd ys k = (((q0 * 16777216 ||| q1 * 65536) ||| q2 * 256) ||| q3)) := by show _ = _; unfold wd; rw [e0, e1, e2, e3]
      rw [e0] at k0 n0
      rw [e1] at k1 n1
      rw [e2] at k2 n2
      rw [e3] at k3 n3
      clear e0 e1 e2 e3 cell
      have z0 : (0 : Int) ≤ (k : Int) := by omega
      have z1 : (k : Int) < 16 := by omega
      have p0 : (64 * (t : Int) + 4 * (k : Int)).toNat = 64 * t + 4 * k := by omega
      have p1 : (64 * (t : Int) + 4 * (k : Int) + 4).toNat = 64 * t + 4 * k + 4 := by omega
      have cs := h1.cell k hlt
      have cf := h1.frozen k
      have HB : Hid _ := wd_bits32 q0 q1 q2 q3 n0 n1 n2 n3
      have HS : Hid _ := h1.set k (wd ys k)
      have hne : ¬ b = w.heap.size + 1 := by omega
      have hne2 : ¬ w.heap.size + 1 = b := by omega
      clear hcells
      go_wp2
      go_region_held3 (fun w' => w'.cell? ⟨b, 64 * t + 4 * k, none⟩ = some (.int .u8 (q0 : Int)) ∧ w'.cell? ⟨b, 64 * t + 4 * k + 1, none⟩ = some (.int .u8 (q1 : Int)) ∧ w'.cell? ⟨b, 64 * t + 4 * k + 2, none⟩ = some (.int .u8 (q2 : Int)) ∧ w'.cell? ⟨b, 64 * t + 4 * k + 3, none⟩ = some (.int .u8 (q3 : Int)))
        (go_keep) (fail)
      have u0 : IntKind.u32.wrap (q0 : Int) = (q0 : Int) := wraps32 _ (by omega) (by omega)
      have u1 : IntKind.u32.wrap (q1 : Int) = (q1 : Int) := wraps32 _ (by omega) (by omega)
      have u2 : IntKind.u32.wrap (q2 : Int) = (q2 : Int) := wraps32 _ (by omega) (by omega)
      have u3 : IntKind.u32.wrap (q3 : Int) = (q3 : Int) := wraps32 _ (by omega) (by omega)
      have y0 : IntKind.u32.wrap ((q0 : Int) * 16777216) = (q0 : Int) * 16777216 := wraps32 _ (by omega) (by omega)
      have y1 : IntKind.u32.wrap ((q1 : Int) * 65536) = (q1 : Int) * 65536 := wraps32 _ (by omega) (by omega)
      have y2 : IntKind.u32.wrap ((q2 : Int) * 256) = (q2 : Int) * 256 := wraps32 _ (by omega) (by omega)
      rw [u0, u1, u2, u3, y0, y1, y2, HB.out, ← HW.out]
      have HB2 : Hid _ := hb.setCell (p := ⟨w.heap.size + 1, k, none⟩) (by simp) (.int .u32 ((wd ys k : Nat) : Int))
      have HS0 : Hid _ := h0.setOther (w.heap.size + 1) k (by omega) (.int .u32 ((wd ys k : Nat) : Int))
      have HS1 : Hid (Rw (wr.setCell ⟨w.heap.size + 1, k, none⟩ (.int .u32 ((wd ys k : Nat) : Int))) (w.heap.size + 1) 118 16 (fun j => if j < k + 1 then wd ys j else 0)) := Rw.congr (F := fun j => if j = k then wd ys k else if j < k then wd ys j else 0) HS.out (fun j hj => by
        by_cases e : j = k
        · subst e; rw [if_pos rfl, if_pos (by omega)]
        · rw [if_neg e]
          by_cases hjk : j < k
          · rw [if_pos hjk, if_pos (by omega)]
          · rw [if_neg hjk, if_neg (by omega)])
      clear u0 u1 u2 u3 y0 y1 y2 HB HW cs cf k0 k1 k2 k3 n0 n1 n2 n3 HS h1 h0 hb
      go_wp2
      go_roundw
      case rel => exact ⟨k + 1, by omega, by go_num, HS1.out, HS0.out, Below.drew HB2.out⟩
      case measure => simp [intOf]; omega
    · have hk16 : k = 16 := by omega
      subst hk16
      have hfin := h1.congr (G := wd ys) (fun i hi => by rw [if_pos hi])
      have HF : Hid _ := hfin
      clear h1 hfin
      go_wp2_with (first | (refine wpList_load_row rfl 118 _ rfl (w.heap.size + 1) rfl 118 (aa 16 (wd ys)) (0, 0) _ HF.out Tryd.underlying118 rfl (size16 _) ?_) | (refine wpList_store_row rfl 118 _ _ rfl w.heap.size (aa 16 (wd ys)) rfl rfl 118 (aa 16 fun _ => 0) h0 (size16 _) (by rw [aa_size, aa_size]) (aa_one _ _) ?_))
      exact bodyPost_ret (v := .agg (aa 16 (wd ys))) (results_cell_row rfl _ _ w.heap.size 118 _ (0, 0) _ rfl (Rw.row h0) Tryd.underlying118 rfl (size16 _)) rfl ⟨rfl, below_setRow hb (Nat.le_refl _) _⟩

theorem region_tail {P : Program} {id : Nat} {Q : Exit → Act → World → Prop} {a : Act} {w : World} {l : List Oper} (n : Nat) (hm : P.follows .mixedOrders = true) (hB : Region.lexTailB .any l.toArray n = true)
    (h : wpStill P l.toArray w.drew (fun a' => wpList P l.toArray Q (l.drop n) a' w.drew) (l.take n) a) : (Code.region id l.toArray true).wp P Q a w := wp_region_still_tail n hm hB h
theorem still_eq {P : Program} {f : FuncId} {args : Array Value} {w : World} {v : Value} (h : Calls P f args w fun e w' => e = .returned v ∧ w = w') : Calls P f args w fun e w'' => e = .returned v ∧ w'' = w :=
  h.mono fun _ _ ⟨he, hm⟩ => ⟨he, hm.symm⟩

set_option maxRecDepth 1000000 in
set_option maxHeartbeats 4000000 in
theorem next_impl (w : World) (F : Nat → Nat) (hF : ∀ i, i < 16 → F (i + 16) = (F i + s0w (F (i + 1)) + F (i + 9) + s1w (F (i + 14))) % 4294967296) (hlt : ∀ i, i < 32 → F i < 4294967296) :
    Calls Tryd.prog 106 #[.agg (aa 16 F)] w fun e w' => e = .returned (.agg (aa 16 fun i => F (i + 16))) ∧ Below w.heap.size w w' := by
  have HF : Hid _ := hF
  have HL : Hid _ := hlt
  clear hF hlt
  go_enter Tryd.func106, Tryd.ntmps106
  have R0 : Hid (Rw ((w.alloc (.cells (aa 16 F) 118)).alloc (.cells (aa 16 fun _ => 0) 118)) w.heap.size 118 16 (fun j => if j < 0 then F (j + 16) else F j)) := Rw.same (w := w.alloc (.cells (aa 16 F) 118)) (heap_alloc_new w _) ((Below.refl _ _).alloc (Nat.le_refl _) _)
  have R1 : Hid (Rw ((w.alloc (.cells (aa 16 F) 118)).alloc (.cells (aa 16 fun _ => 0) 118)) (w.heap.size + 1) 118 16 (fun _ => 0)) := heap_alloc2_new w _ _
  have B0 : Hid (Below w.heap.size w ((w.alloc (.cells (aa 16 F) 118)).alloc (.cells (aa 16 fun _ => 0) 118))) := ((Below.refl _ _).alloc (Nat.le_refl _) _).alloc (by simp) _
  go_wp2
  go_loopw [4] (fun i wr => ∃ k : Nat, k ≤ 16 ∧ i = .int .i64 (k : Int) ∧ Rw wr w.heap.size 118 16 (fun j => if j < k then F (j + 16) else F j) ∧ Rw wr (w.heap.size + 1) 118 16 (fun _ => 0) ∧ Below w.heap.size w wr) (fun i _ => 16 - (intOf i).toNat)
  case atStart => exact ⟨0, Nat.zero_le _, rfl, R0.out, R1.out, B0.out⟩
  case round =>
    obtain ⟨k, hk, rfl, h0, h1, hb⟩ := hrel
    clear R0 R1 B0
    by_cases hlt : k < 16
    · obtain ⟨i1, hi1⟩ : ∃ i1 : Nat, (k + 1) % 16 = i1 := ⟨_, rfl⟩
      obtain ⟨i9, hi9⟩ : ∃ i9 : Nat, (k + 9) % 16 = i9 := ⟨_, rfl⟩
      obtain ⟨i14, hi14⟩ : ∃ i14 : Nat, (k + 14) % 16 = i14 := ⟨_, rfl⟩
      have l1 : i1 < 16 := by omega
      have l9 : i9 < 16 := by omega
      have l14 : i14 < 16 := by omega
      have k0 := h0.cell k hlt
      have k1 := h0.cell i1 l1
      have k9 := h0.cell i9 l9
      have k14 := h0.cell i14 l14
      have E0 : (if k < k then F (k + 16) else F k) = F k := if_neg (Nat.lt_irrefl _)
      have E1 : (if i1 < k then F (i1 + 16) else F i1) = F (k + 1) := by split <;> (congr 1; omega)
      have E9 : (if i9 < k then F (i9 + 16) else F i9) = F (k + 9) := by split <;> (congr 1; omega)
      have E14 : (if i14 < k then F (i14 + 16) else F i14) = F (k + 14) := by split <;> (congr 1; omega)
      rw [E0] at k0
      rw [E1] at k1
      rw [E9] at k9
      rw [E14] at k14
      have m0 := HL.out k (by omega)
      have m1 := HL.out (k + 1) (by omega)
      have m9 := HL.out (k + 9) (by omega)
      have m14 := HL.out (k + 14) (by omega)
      have hFk := HF.out k hlt
      obtain ⟨x0, e0⟩ : ∃ x, F k = x := ⟨_, rfl⟩
      obtain ⟨x1, e1⟩ : ∃ x, F (k + 1) = x := ⟨_, rfl⟩
      obtain ⟨x9, e9⟩ : ∃ x, F (k + 9) = x := ⟨_, rfl⟩
      obtain ⟨x14, e14⟩ : ∃ x, F (k + 14) = x := ⟨_, rfl⟩
      rw [e0] at k0 m0
      rw [e1] at k1 m1
      rw [e9] at k9 m9
      rw [e14] at k14 m14
      rw [e0, e1, e9, e14] at hFk
      have HX : Hid (F (k + 16) = (x0 + s0w x1 + x9 + s1w x14) % 4294967296) := hFk
      clear E0 E1 E9 E14 e0 e1 e9 e14 hFk
      have cf := h0.frozen k
      have z0 : (0 : Int) ≤ (k : Int) := by omega
      have z1 : (k : Int) < 16 := by omega
      have z2 : (0 : Int) ≤ (i1 : Int) := by omega
      have z3 : (i1 : Int) < 16 := by omega
      have z4 : (0 : Int) ≤ (i9 : Int) := by omega
      have z5 : (i9 : Int) < 16 := by omega
      have z6 : (0 : Int) ≤ (i14 : Int) := by omega
      have z7 : (i14 : Int) < 16 := by omega
      have a1 : IntKind.i64.wrap ((k : Int) + 1) = (k : Int) + 1 := wraps62 _ (by omega) (by omega)
      have a9 : IntKind.i64.wrap ((k : Int) + 9) = (k : Int) + 9 := wraps62 _ (by omega) (by omega)
      have a14 : IntKind.i64.wrap ((k : Int) + 14) = (k : Int) + 14 := wraps62 _ (by omega) (by omega)
      have t1 : ((k : Int) + 1).tmod 16 = (i1 : Int) := by rw [Int.tmod_eq_emod_of_nonneg (by omega)]; omega
      have t9 : ((k : Int) + 9).tmod 16 = (i9 : Int) := by rw [Int.tmod_eq_emod_of_nonneg (by omega)]; omega
      have t14 : ((k : Int) + 14).tmod 16 = (i14 : Int) := by rw [Int.tmod_eq_emod_of_nonneg (by omega)]; omega
      have n1 : ¬ k = i1 := by omega
      have n9 : ¬ k = i9 := by omega
      have n14 : ¬ k = i14 := by omega
      have n1' : ¬ i1 = k := by omega
      have n9' : ¬ i9 = k := by omega
      have n14' : ¬ i14 = k := by omega
      have q0 : ∀ w, _ := fun w => s0_impl w x1 m1
      have q1 : ∀ w, _ := fun w => s1_impl w x14 m14
      clear hi1 hi9 hi14
      go_wp2
      refine region_tail 24 (by kernel_rfl) (by kernel_rfl) ?_
      simp only [List.take_succ_cons, List.take_zero, List.drop_succ_cons, List.drop_zero]
      repeat still_step
      still_call (still_eq (q0 _))
      repeat still_step
      still_call (still_eq (q1 _))
      repeat still_step
      refine wpStill_nil ?_
      have hsum : IntKind.u32.wrap ((x0 : Int) + IntKind.u32.wrap (IntKind.u32.wrap (((s0w x1 : Nat) : Int) + (x9 : Int)) + ((s1w x14 : Nat) : Int))) = ((F (k + 16) : Nat) : Int) := by
        rw [HX.out]
        simp only [IntKind.wrap_u32]
        omega
      rw [hsum]
      have HS : Hid (Rw (wr.setCell ⟨w.heap.size, k, none⟩ (.int .u32 ((F (k + 16) : Nat) : Int))) w.heap.size 118 16 (fun j => if j < k + 1 then F (j + 16) else F j)) := Rw.congr (h0.set k (F (k + 16))) (fun j hj => by
        by_cases e : j = k
        · subst e; rw [if_pos rfl, if_pos (by omega)]
        · rw [if_neg e]
          by_cases hjk : j < k
          · rw [if_pos hjk, if_pos (by omega)]
          · rw [if_neg hjk, if_neg (by omega)])
      have HS1 : Hid _ := h1.setOther w.heap.size k (by omega) (.int .u32 ((F (k + 16) : Nat) : Int))
      have HB2 : Hid _ := hb.setCell (p := ⟨w.heap.size, k, none⟩) (Nat.le_refl _) (.int .u32 ((F (k + 16) : Nat) : Int))
      clear hsum q0 q1 t1 t9 t14 a1 a9 a14 k1 k9 k14 h0 h1 hb m0 m1 m9 m14 n1 n9 n14 n1' n9' n14'
      go_wp2
      go_roundw
      case rel => exact ⟨k + 1, by omega, by go_num, HS.out, HS1.out, Below.drew HB2.out⟩
      case measure => simp [intOf]; omega
    · have hk16 : k = 16 := by omega
      subst hk16
      have HG : Hid (Rw wr w.heap.size 118 16 (fun i => F (i + 16))) := Rw.congr h0 (fun i hi => by rw [if_pos hi])
      clear h0
      go_wp2_with (first | (refine wpList_load_row rfl 118 _ rfl w.heap.size rfl 118 (aa 16 (fun i => F (i + 16))) (0, 0) _ HG.out Tryd.underlying118 rfl (size16 _) ?_) | (refine wpList_store_row rfl 118 _ _ rfl (w.heap.size + 1) (aa 16 (fun i => F (i + 16))) rfl rfl 118 (aa 16 fun _ => 0) h1 (size16 _) (by rw [aa_size, aa_size]) (aa_one _ _) ?_))
      exact bodyPost_ret (v := .agg (aa 16 (fun i => F (i + 16)))) (results_cell_row rfl _ _ (w.heap.size + 1) 118 _ (0, 0) _ rfl (Rw.row h1) Tryd.underlying118 rfl (size16 _)) rfl ⟨rfl, below_setRow hb (by omega) _⟩

end Go.Proofs.YtccnhhdcdamgmaaDoor.Sha

/- Texts in one: ShaC, ShaD. -/
import Derived.Test.YtchonoonclllbaaGreatDoorPh28
import Derived.Laws.Rows
import Derived.BigRegion
import Derived.StillTailTactics
set_option maxHeartbeats 16000000
set_option linter.unusedVariables false
set_option linter.unusedSimpArgs false
namespace Go.Proofs.YtchonoonclllbaaGreatDoor.Sha
open Go.RowKit Mem Laws Bytes
def aa (n : Nat) (F : Nat → Nat) : Array Value := ((List.range n).map fun j => Value.int .u32 ((F j : Nat) : Int)).toArray
theorem aa_size (n : Nat) (F : Nat → Nat) : (aa n F).size = n := by simp [aa]
theorem aa_get (n : Nat) (F : Nat → Nat) (i : Nat) (h : i < n) : (aa n F)[i]? = some (.int .u32 ((F i : Nat) : Int)) := by simp [aa, h]
theorem aa_congr {n : Nat} {F G : Nat → Nat} (h : ∀ i, i < n → F i = G i) : aa n F = aa n G := by
 unfold aa
 congr 1
 apply List.map_congr_left
 intro i hi
 rw [h i (by simpa using hi)]
theorem aa_one (n : Nat) (F : Nat → Nat) : (aa n F).all (·.oneCell') = true := by
 rw [Array.all_eq_true_iff_forall_mem]
 intro x hx
 simp only [aa, List.mem_toArray, List.mem_map] at hx
 obtain ⟨j, _, rfl⟩ := hx
 rfl
theorem aa_set (n : Nat) (F : Nat → Nat) (i x : Nat) : (aa n F).setIfInBounds i (.int .u32 (x : Int)) = aa n (fun j => if j = i then x else F j) := by
 apply Array.ext_getElem?
 intro j
 rw [Array.getElem?_setIfInBounds]
 by_cases hj : j < n
 ·have hG := aa_get n (fun j => if j = i then x else F j) j hj
  rw [hG, aa_get n F j hj, aa_size]
  by_cases e : i = j
  ·subst e; rw [if_pos rfl, if_pos rfl, if_pos hj]
  ·have e' : ¬ j = i := fun h => e h.symm
   rw [if_neg e, if_neg e']
 ·have h1 : (aa n (fun j => if j = i then x else F j))[j]? = none := Array.getElem?_eq_none (by rw [aa_size]; omega)
  have h2 : (aa n F)[j]? = none := Array.getElem?_eq_none (by rw [aa_size]; omega)
  rw [h1, h2]
  simp [aa_size]
  omega
def Rw (w : World) (g : Nat) (t : TypeId) (n : Nat) (F : Nat → Nat) : Prop := w.heap[g]? = some (.cells (aa n F) t (0, 0))
theorem Rw.cell {w : World} {g : Nat} {t : TypeId} {n : Nat} {F : Nat → Nat} (h : Rw w g t n F) (i : Nat) (hi : i < n) : w.cell? ⟨g, i, none⟩ = some (.int .u32 ((F i : Nat) : Int)) := by
 rw [cell_of_row w g i _ t (0, 0) h, aa_get n F i hi]
theorem Rw.frozen {w : World} {g : Nat} {t : TypeId} {n : Nat} {F : Nat → Nat} (h : Rw w g t n F) (i : Nat) : w.frozen? ⟨g, i, none⟩ = false := by
 have h' : w.heap[g]? = some (.cells (aa n F) t (0, 0)) := h
 simp [World.frozen?, h']
theorem Rw.set {w : World} {g : Nat} {t : TypeId} {n : Nat} {F : Nat → Nat} (h : Rw w g t n F) (i x : Nat) : Rw (w.setCell ⟨g, i, none⟩ (.int .u32 (x : Int))) g t n (fun j => if j = i then x else F j) := by
 have h' : w.heap[g]? = some (.cells (aa n F) t (0, 0)) := h
 show _ = _
 rw [← aa_set]
 simp [World.setCell, Array.getElem?_modify, h']
theorem Rw.setOther {w : World} {g : Nat} {t : TypeId} {n : Nat} {F : Nat → Nat} (h : Rw w g t n F) (b i : Nat) (hb : g ≠ b) (v : Value) : Rw (w.setCell ⟨b, i, none⟩ v) g t n F := by
 show _ = _
 rw [Below.heap_setCell _ _ _ _ (by exact hb)]
 exact h
theorem Rw.later {w w' : World} {g B : Nat} {t : TypeId} {n : Nat} {F : Nat → Nat} (h : Rw w g t n F) (hb : Below B w w') (hg : g < B) : Rw w' g t n F := (hb.block g hg).trans h
theorem Rw.lt {w : World} {g : Nat} {t : TypeId} {n : Nat} {F : Nat → Nat} (h : Rw w g t n F) : g < w.heap.size := (Array.getElem?_eq_some_iff.1 h).1
theorem Rw.same {w w' : World} {g : Nat} {t : TypeId} {n : Nat} {F : Nat → Nat} (h : Rw w g t n F) (hw : Below w.heap.size w w') : Rw w' g t n F := h.later hw h.lt
theorem Rw.congr {w : World} {g : Nat} {t : TypeId} {n : Nat} {F G : Nat → Nat} (h : Rw w g t n F) (e : ∀ i, i < n → F i = G i) : Rw w g t n G := by
 unfold Rw at *
 rw [← aa_congr e]
 exact h
theorem Rw.row {w : World} {g : Nat} {t : TypeId} {n : Nat} {F G : Nat → Nat} (h : Rw w g t n F) : Rw (w.setRow g (aa n G)) g t n G := setRow_heap w g _ _ t _ h
theorem Rw.rowOther {w : World} {g b : Nat} {t : TypeId} {n : Nat} {F : Nat → Nat} (h : Rw w g t n F) (hb : g ≠ b) (cs : Array Value) : Rw (w.setRow b cs) g t n F := by
 show (w.setRow b cs).heap[g]? = _
 unfold World.setRow
 simp only [Array.getElem?_modify]
 rw [if_neg (by omega)]
 exact h
theorem size16 (F : Nat → Nat) : (Tryz.prog.info? 180).map (·.size) = some (aa 16 F).size := by rw [aa_size]; kernel_rfl
theorem size8 (F : Nat → Nat) : (Tryz.prog.info? 178).map (·.size) = some (aa 8 F).size := by rw [aa_size]; kernel_rfl
theorem wd_bits32 (a b c d : Nat) (ha : a < 256) (hb : b < 256) (hc : c < 256) (hd : d < 256) :
  bits .or .u32 (bits .or .u32 (bits .or .u32 ((a : Int) * 16777216) ((b : Int) * 65536)) ((c : Int) * 256)) (d : Int) = ((((a * 16777216 ||| b * 65536) ||| c * 256) ||| d : Nat) : Int) := by
 have e1 : (a : Int) * 16777216 = ((a * 16777216 : Nat) : Int) := by omega
 have e2 : (b : Int) * 65536 = ((b * 65536 : Nat) : Int) := by omega
 have e3 : (c : Int) * 256 = ((c * 256 : Nat) : Int) := by omega
 have l1 : a * 16777216 ||| b * 65536 < 2 ^ 32 := Nat.or_lt_two_pow (by omega) (by omega)
 have l2 : (a * 16777216 ||| b * 65536) ||| c * 256 < 2 ^ 32 := Nat.or_lt_two_pow l1 (by omega)
 rw [e1, e2, e3, or32 (by omega) (by omega), or32 (by omega) (by omega), or32 (by omega) (by omega)]
set_option maxRecDepth 1000000 in
theorem words_impl (w : World) (b N cap t : Nat) (ys : List Int) (hy : ys.length = 64) (hby : Byt ys) (hN : 64 * t + 64 ≤ N) (hNb : N ≤ 2000000000000) (hcap : N ≤ cap)
  (hcells : ∀ j, j < ys.length → w.cell? ⟨b, 64 * t + j, none⟩ = (bs ys)[j]?) :
  Calls Tryz.prog 152 #[.slice (some ⟨b, 0, none⟩) N cap, .int .i64 (64 * (t : Int))] w fun e w' => e = .returned (.agg (aa 16 (wd ys))) ∧ Below w.heap.size w w' := by
 have hbl : b < w.heap.size := World.block_lt_of_cell? w ⟨b, 64 * t + 0, none⟩ (byte_cell hby hcells 0 (by omega))
 have r0 : Rw ((w.alloc (.cells (aa 16 fun _ => 0) 180)).alloc (.cells (aa 16 fun _ => 0) 180)) w.heap.size 180 16 (fun _ => 0) := Rw.same (w := w.alloc (.cells (aa 16 fun _ => 0) 180)) (heap_alloc_new w _) ((Below.refl _ _).alloc (Nat.le_refl _) _)
 have r1 : Rw ((w.alloc (.cells (aa 16 fun _ => 0) 180)).alloc (.cells (aa 16 fun _ => 0) 180)) (w.heap.size + 1) 180 16 (fun j => if j < 0 then wd ys j else 0) := heap_alloc2_new w _ _
 have hb0 : Below w.heap.size w ((w.alloc (.cells (aa 16 fun _ => 0) 180)).alloc (.cells (aa 16 fun _ => 0) 180)) := ((Below.refl _ _).alloc (Nat.le_refl _) _).alloc (by simp) _
 have R0 : Hid _ := r0
 have R1 : Hid _ := r1
 have B0 : Hid _ := hb0
 clear r0 r1 hb0
 go_enter Tryz.func152, Tryz.ntmps152
 go_wp2
 go_loopw [8] (fun i wr => ∃ k : Nat, k ≤ 16 ∧ i = .int .i64 (k : Int) ∧ Rw wr (w.heap.size + 1) 180 16 (fun j => if j < k then wd ys j else 0) ∧ Rw wr w.heap.size 180 16 (fun _ => 0) ∧ Below w.heap.size w wr) (fun i _ => 16 - (intOf i).toNat)
 case atStart => exact ⟨0, Nat.zero_le _, rfl, R1.out, R0.out, B0.out⟩
 case round =>
  obtain ⟨k, hk, rfl, h1, h0, hb⟩ := hrel
  clear R0 R1 B0
  by_cases hlt : k < 16
  ·have cell : ∀ j, j < 64 → wr.cell? ⟨b, 64 * t + j, none⟩ = some (.int .u8 (nb ys j : Nat)) := fun j hj => by
    rw [hb.cell (p := ⟨b, 64 * t + j, none⟩) hbl]; exact byte_cell hby hcells j (by omega)
   have k0 := cell (4 * k) (by omega)
   have k1 : wr.cell? ⟨b, 64 * t + 4 * k + 1, none⟩ = _ := cell (4 * k + 1) (by omega)
   have k2 : wr.cell? ⟨b, 64 * t + 4 * k + 2, none⟩ = _ := cell (4 * k + 2) (by omega)
   have k3 : wr.cell? ⟨b, 64 * t + 4 * k + 3, none⟩ = _ := cell (4 * k + 3) (by omega)
   have n0 := nb_lt hby (4 * k)
   have n1 := nb_lt hby (4 * k + 1)
   have n2 := nb_lt hby (4 * k + 2)
   have n3 := nb_lt hby (4 * k + 3)
   obtain ⟨q0, e0⟩ : ∃ q, nb ys (4 * k) = q := ⟨_, rfl⟩
   obtain ⟨q1, e1⟩ : ∃ q, nb ys (4 * k + 1) = q := ⟨_, rfl⟩
   obtain ⟨q2, e2⟩ : ∃ q, nb ys (4 * k + 2) = q := ⟨_, rfl⟩
   obtain ⟨q3, e3⟩ : ∃ q, nb ys (4 * k + 3) = q := ⟨_, rfl⟩
   have HW : Hid (wd ys k = (((q0 * 16777216 ||| q1 * 65536) ||| q2 * 256) ||| q3)) := by show _ = _; unfold wd; rw [e0, e1, e2, e3]
   rw [e0] at k0 n0
   rw [e1] at k1 n1
   rw [e2] at k2 n2
   rw [e3] at k3 n3
   clear e0 e1 e2 e3 cell
   have z0 : (0 : Int) ≤ (k : Int) := by omega
   have z1 : (k : Int) < 16 := by omega
   have p0 : (64 * (t : Int) + 4 * (k : Int)).toNat = 64 * t + 4 * k := by omega
   have p1 : (64 * (t : Int) + 4 * (k : Int) + 4).toNat = 64 * t + 4 * k + 4 := by omega
   have cs := h1.cell k hlt
   have cf := h1.frozen k
   have HB : Hid _ := wd_bits32 q0 q1 q2 q3 n0 n1 n2 n3
   have HS : Hid _ := h1.set k (wd ys k)
   have hne : ¬ b = w.heap.size + 1 := by omega
   have hne2 : ¬ w.heap.size + 1 = b := by omega
   clear hcells
   go_wp2
   go_region_held3 (fun w' => w'.cell? ⟨b, 64 * t + 4 * k, none⟩ = some (.int .u8 (q0 : Int)) ∧ w'.cell? ⟨b, 64 * t + 4 * k + 1, none⟩ = some (.int .u8 (q1 : Int)) ∧ w'.cell? ⟨b, 64 * t + 4 * k + 2, none⟩ = some (.int .u8 (q2 : Int)) ∧ w'.cell? ⟨b, 64 * t + 4 * k + 3, none⟩ = some (.int .u8 (q3 : Int)))
    (go_keep) (fail)
   have u0 : IntKind.u32.wrap (q0 : Int) = (q0 : Int) := wraps32 _ (by omega) (by omega)
   have u1 : IntKind.u32.wrap (q1 : Int) = (q1 : Int) := wraps32 _ (by omega) (by omega)
   have u2 : IntKind.u32.wrap (q2 : Int) = (q2 : Int) := wraps32 _ (by omega) (by omega)
   have u3 : IntKind.u32.wrap (q3 : Int) = (q3 : Int) := wraps32 _ (by omega) (by omega)
   have y0 : IntKind.u32.wrap ((q0 : Int) * 16777216) = (q0 : Int) * 16777216 := wraps32 _ (by omega) (by omega)
   have y1 : IntKind.u32.wrap ((q1 : Int) * 65536) = (q1 : Int) * 65536 := wraps32 _ (by omega) (by omega)
   have y2 : IntKind.u32.wrap ((q2 : Int) * 256) = (q2 : Int) * 256 := wraps32 _ (by omega) (by omega)
   rw [u0, u1, u2, u3, y0, y1, y2, HB.out, ← HW.out]
   have HB2 : Hid _ := hb.setCell (p := ⟨w.heap.size + 1, k, none⟩) (by simp) (.int .u32 ((wd ys k : Nat) : Int))
   have HS0 : Hid _ := h0.setOther (w.heap.size + 1) k (by omega) (.int .u32 ((wd ys k : Nat) : Int))
   have HS1 : Hid (Rw (wr.setCell ⟨w.heap.size + 1, k, none⟩ (.int .u32 ((wd ys k : Nat) : Int))) (w.heap.size + 1) 180 16 (fun j => if j < k + 1 then wd ys j else 0)) := Rw.congr (F := fun j => if j = k then wd ys k else if j < k then wd ys j else 0) HS.out (fun j hj => by
    by_cases e : j = k
    ·subst e; rw [if_pos rfl, if_pos (by omega)]
    ·rw [if_neg e]
     by_cases hjk : j < k
     ·rw [if_pos hjk, if_pos (by omega)]
     ·rw [if_neg hjk, if_neg (by omega)])
   clear u0 u1 u2 u3 y0 y1 y2 HB HW cs cf k0 k1 k2 k3 n0 n1 n2 n3 HS h1 h0 hb
   go_wp2
   go_roundw
   case rel => exact ⟨k + 1, by omega, by go_num, HS1.out, HS0.out, Below.drew HB2.out⟩
   case measure => simp [intOf]; omega
  ·have hk16 : k = 16 := by omega
   subst hk16
   have hfin := h1.congr (G := wd ys) (fun i hi => by rw [if_pos hi])
   have HF : Hid _ := hfin
   clear h1 hfin
   go_wp2_with (first | (refine wpList_load_row rfl 180 _ rfl (w.heap.size + 1) rfl 180 (aa 16 (wd ys)) (0, 0) _ HF.out Tryz.underlying180 rfl (size16 _) ?_) | (refine wpList_store_row rfl 180 _ _ rfl w.heap.size (aa 16 (wd ys)) rfl rfl 180 (aa 16 fun _ => 0) h0 (size16 _) (by rw [aa_size, aa_size]) (aa_one _ _) ?_))
   exact bodyPost_ret (v := .agg (aa 16 (wd ys))) (results_cell_row rfl _ _ w.heap.size 180 _ (0, 0) _ rfl (Rw.row h0) Tryz.underlying180 rfl (size16 _)) rfl ⟨rfl, below_setRow hb (Nat.le_refl _) _⟩
theorem region_tail {P : Program} {id : Nat} {Q : Exit → Act → World → Prop} {a : Act} {w : World} {l : List Oper} (n : Nat) (hm : P.follows .mixedOrders = true) (hB : Region.lexTailB .any l.toArray n = true)
  (h : wpStill P l.toArray w.drew (fun a' => wpList P l.toArray Q (l.drop n) a' w.drew) (l.take n) a) : (Code.region id l.toArray true).wp P Q a w := wp_region_still_tail n hm hB h
theorem still_eq {P : Program} {f : FuncId} {args : Array Value} {w : World} {v : Value} (h : Calls P f args w fun e w' => e = .returned v ∧ w = w') : Calls P f args w fun e w'' => e = .returned v ∧ w'' = w :=
 h.mono fun _ _ ⟨he, hm⟩ => ⟨he, hm.symm⟩
set_option maxRecDepth 1000000 in
theorem next_impl (w : World) (F : Nat → Nat) (hF : ∀ i, i < 16 → F (i + 16) = (F i + s0w (F (i + 1)) + F (i + 9) + s1w (F (i + 14))) % 4294967296) (hlt : ∀ i, i < 32 → F i < 4294967296) :
  Calls Tryz.prog 180 #[.agg (aa 16 F)] w fun e w' => e = .returned (.agg (aa 16 fun i => F (i + 16))) ∧ Below w.heap.size w w' := by
 have HF : Hid _ := hF
 have HL : Hid _ := hlt
 clear hF hlt
 go_enter Tryz.func180, Tryz.ntmps180
 have R0 : Hid (Rw ((w.alloc (.cells (aa 16 F) 180)).alloc (.cells (aa 16 fun _ => 0) 180)) w.heap.size 180 16 (fun j => if j < 0 then F (j + 16) else F j)) := Rw.same (w := w.alloc (.cells (aa 16 F) 180)) (heap_alloc_new w _) ((Below.refl _ _).alloc (Nat.le_refl _) _)
 have R1 : Hid (Rw ((w.alloc (.cells (aa 16 F) 180)).alloc (.cells (aa 16 fun _ => 0) 180)) (w.heap.size + 1) 180 16 (fun _ => 0)) := heap_alloc2_new w _ _
 have B0 : Hid (Below w.heap.size w ((w.alloc (.cells (aa 16 F) 180)).alloc (.cells (aa 16 fun _ => 0) 180))) := ((Below.refl _ _).alloc (Nat.le_refl _) _).alloc (by simp) _
 go_wp2
 go_loopw [4] (fun i wr => ∃ k : Nat, k ≤ 16 ∧ i = .int .i64 (k : Int) ∧ Rw wr w.heap.size 180 16 (fun j => if j < k then F (j + 16) else F j) ∧ Rw wr (w.heap.size + 1) 180 16 (fun _ => 0) ∧ Below w.heap.size w wr) (fun i _ => 16 - (intOf i).toNat)
 case atStart => exact ⟨0, Nat.zero_le _, rfl, R0.out, R1.out, B0.out⟩
 case round =>
  obtain ⟨k, hk, rfl, h0, h1, hb⟩ := hrel
  clear R0 R1 B0
  by_cases hlt : k < 16
  ·obtain ⟨i1, hi1⟩ : ∃ i1 : Nat, (k + 1) % 16 = i1 := ⟨_, rfl⟩
   obtain ⟨i9, hi9⟩ : ∃ i9 : Nat, (k + 9) % 16 = i9 := ⟨_, rfl⟩
   obtain ⟨i14, hi14⟩ : ∃ i14 : Nat, (k + 14) % 16 = i14 := ⟨_, rfl⟩
   have l1 : i1 < 16 := by omega
   have l9 : i9 < 16 := by omega
   have l14 : i14 < 16 := by omega
   have k0 := h0.cell k hlt
   have k1 := h0.cell i1 l1
   have k9 := h0.cell i9 l9
   have k14 := h0.cell i14 l14
   have E0 : (if k < k then F (k + 16) else F k) = F k := if_neg (Nat.lt_irrefl _)
   have E1 : (if i1 < k then F (i1 + 16) else F i1) = F (k + 1) := by split <;> (congr 1; omega)
   have E9 : (if i9 < k then F (i9 + 16) else F i9) = F (k + 9) := by split <;> (congr 1; omega)
   have E14 : (if i14 < k then F (i14 + 16) else F i14) = F (k + 14) := by split <;> (congr 1; omega)
   rw [E0] at k0
   rw [E1] at k1
   rw [E9] at k9
   rw [E14] at k14
   have m0 := HL.out k (by omega)
   have m1 := HL.out (k + 1) (by omega)
   have m9 := HL.out (k + 9) (by omega)
   have m14 := HL.out (k + 14) (by omega)
   have hFk := HF.out k hlt
   obtain ⟨x0, e0⟩ : ∃ x, F k = x := ⟨_, rfl⟩
   obtain ⟨x1, e1⟩ : ∃ x, F (k + 1) = x := ⟨_, rfl⟩
   obtain ⟨x9, e9⟩ : ∃ x, F (k + 9) = x := ⟨_, rfl⟩
   obtain ⟨x14, e14⟩ : ∃ x, F (k + 14) = x := ⟨_, rfl⟩
   rw [e0] at k0 m0
   rw [e1] at k1 m1
   rw [e9] at k9 m9
   rw [e14] at k14 m14
   rw [e0, e1, e9, e14] at hFk
   have HX : Hid (F (k + 16) = (x0 + s0w x1 + x9 + s1w x14) % 4294967296) := hFk
   clear E0 E1 E9 E14 e0 e1 e9 e14 hFk
   have cf := h0.frozen k
   have z0 : (0 : Int) ≤ (k : Int) := by omega
   have z1 : (k : Int) < 16 := by omega
   have z2 : (0 : Int) ≤ (i1 : Int) := by omega
   have z3 : (i1 : Int) < 16 := by omega
   have z4 : (0 : Int) ≤ (i9 : Int) := by omega
   have z5 : (i9 : Int) < 16 := by omega
   have z6 : (0 : Int) ≤ (i14 : Int) := by omega
   have z7 : (i14 : Int) < 16 := by omega
   have a1 : IntKind.i64.wrap ((k : Int) + 1) = (k : Int) + 1 := wraps62 _ (by omega) (by omega)
   have a9 : IntKind.i64.wrap ((k : Int) + 9) = (k : Int) + 9 := wraps62 _ (by omega) (by omega)
   have a14 : IntKind.i64.wrap ((k : Int) + 14) = (k : Int) + 14 := wraps62 _ (by omega) (by omega)
   have t1 : ((k : Int) + 1).tmod 16 = (i1 : Int) := by rw [Int.tmod_eq_emod_of_nonneg (by omega)]; omega
   have t9 : ((k : Int) + 9).tmod 16 = (i9 : Int) := by rw [Int.tmod_eq_emod_of_nonneg (by omega)]; omega
   have t14 : ((k : Int) + 14).tmod 16 = (i14 : Int) := by rw [Int.tmod_eq_emod_of_nonneg (by omega)]; omega
   have n1 : ¬ k = i1 := by omega
   have n9 : ¬ k = i9 := by omega
   have n14 : ¬ k = i14 := by omega
   have n1' : ¬ i1 = k := by omega
   have n9' : ¬ i9 = k := by omega
   have n14' : ¬ i14 = k := by omega
   have q0 : ∀ w, _ := fun w => s0_impl w x1 m1
   have q1 : ∀ w, _ := fun w => s1_impl w x14 m14
   clear hi1 hi9 hi14
   go_wp2
   refine region_tail 24 (by kernel_rfl) (by kernel_rfl) ?_
   simp only [List.take_succ_cons, List.take_zero, List.drop_succ_cons, List.drop_zero]
   repeat still_step
   still_call (still_eq (q0 _))
   repeat still_step
   still_call (still_eq (q1 _))
   repeat still_step
   refine wpStill_nil ?_
   have hsum : IntKind.u32.wrap ((x0 : Int) + IntKind.u32.wrap (IntKind.u32.wrap (((s0w x1 : Nat) : Int) + (x9 : Int)) + ((s1w x14 : Nat) : Int))) = ((F (k + 16) : Nat) : Int) := by
    rw [HX.out]
    simp only [IntKind.wrap_u32]
    omega
   rw [hsum]
   have HS : Hid (Rw (wr.setCell ⟨w.heap.size, k, none⟩ (.int .u32 ((F (k + 16) : Nat) : Int))) w.heap.size 180 16 (fun j => if j < k + 1 then F (j + 16) else F j)) := Rw.congr (h0.set k (F (k + 16))) (fun j hj => by
    by_cases e : j = k
    ·subst e; rw [if_pos rfl, if_pos (by omega)]
    ·rw [if_neg e]
     by_cases hjk : j < k
     ·rw [if_pos hjk, if_pos (by omega)]
     ·rw [if_neg hjk, if_neg (by omega)])
   have HS1 : Hid _ := h1.setOther w.heap.size k (by omega) (.int .u32 ((F (k + 16) : Nat) : Int))
   have HB2 : Hid _ := hb.setCell (p := ⟨w.heap.size, k, none⟩) (Nat.le_refl _) (.int .u32 ((F (k + 16) : Nat) : Int))
   clear hsum q0 q1 t1 t9 t14 a1 a9 a14 k1 k9 k14 h0 h1 hb m0 m1 m9 m14 n1 n9 n14 n1' n9' n14'
   go_wp2
   go_roundw
   case rel => exact ⟨k + 1, by omega, by go_num, HS.out, HS1.out, Below.drew HB2.out⟩
   case measure => simp [intOf]; omega
  ·have hk16 : k = 16 := by omega
   subst hk16
   have HG : Hid (Rw wr w.heap.size 180 16 (fun i => F (i + 16))) := Rw.congr h0 (fun i hi => by rw [if_pos hi])
   clear h0
   go_wp2_with (first | (refine wpList_load_row rfl 180 _ rfl w.heap.size rfl 180 (aa 16 (fun i => F (i + 16))) (0, 0) _ HG.out Tryz.underlying180 rfl (size16 _) ?_) | (refine wpList_store_row rfl 180 _ _ rfl (w.heap.size + 1) (aa 16 (fun i => F (i + 16))) rfl rfl 180 (aa 16 fun _ => 0) h1 (size16 _) (by rw [aa_size, aa_size]) (aa_one _ _) ?_))
   exact bodyPost_ret (v := .agg (aa 16 (fun i => F (i + 16)))) (results_cell_row rfl _ _ (w.heap.size + 1) 180 _ (0, 0) _ rfl (Rw.row h1) Tryz.underlying180 rfl (size16 _)) rfl ⟨rfl, below_setRow hb (by omega) _⟩
theorem ext_pre (n : Nat) : ∀ (l : List Nat) (i : Nat), i < l.length → (ext n l).getD i 0 = l.getD i 0 := by
 induction n with
 | zero => intro l i h; rfl
 | succ n ih =>
  intro l i h
  rw [ext, ih _ _ (by simp; omega)]
  simp [List.getD, List.getElem?_append_left h]
theorem ext_rec (n : Nat) : ∀ (l : List Nat) (i : Nat), 16 ≤ l.length → l.length ≤ i → i < l.length + n →
  (ext n l).getD i 0 = ((ext n l).getD (i - 16) 0 + s0w ((ext n l).getD (i - 15) 0) + (ext n l).getD (i - 7) 0 + s1w ((ext n l).getD (i - 2) 0)) % 4294967296 := by
 induction n with
 | zero => intro l i h1 h2 h3; omega
 | succ n ih =>
  intro l i h1 h2 h3
  rw [ext]
  by_cases e : i = l.length
  ·subst e
   rw [ext_pre n _ _ (by simp), ext_pre n _ (l.length - 16) (by simp; omega), ext_pre n _ (l.length - 15) (by simp; omega), ext_pre n _ (l.length - 7) (by simp; omega), ext_pre n _ (l.length - 2) (by simp; omega)]
   have g : ∀ j, j < l.length → (l ++ [nxt l]).getD j 0 = l.getD j 0 := fun j hj => by simp [List.getD, List.getElem?_append_left hj]
   rw [g (l.length - 16) (by omega), g (l.length - 15) (by omega), g (l.length - 7) (by omega), g (l.length - 2) (by omega)]
   simp [List.getD, nxt]
  ·exact ih _ i (by simp; omega) (by simp; omega) (by simp; omega)
theorem first_n (n : Nat) (f : Nat → Nat) (i : Nat) (h : i < 16) : (ext n ((List.range 16).map f)).getD i 0 = f i := by
 rw [ext_pre n _ i (by simpa using h)]
 simp [List.getD, h]
theorem next_n (n : Nat) (l : List Nat) (hl : l.length = 16) (q i : Nat) (h : 16 * q + i < n) : (ext n l).getD (16 * q + (i + 16)) 0 = ((ext n l).getD (16 * q + i) 0 + s0w ((ext n l).getD (16 * q + (i + 1)) 0) + (ext n l).getD (16 * q + (i + 9)) 0 + s1w ((ext n l).getD (16 * q + (i + 14)) 0)) % 4294967296 := by
 have e := ext_rec n l (16 * q + (i + 16)) (by omega) (by omega) (by omega)
 rw [show 16 * q + (i + 16) - 16 = 16 * q + i by omega, show 16 * q + (i + 16) - 15 = 16 * q + (i + 1) by omega, show 16 * q + (i + 16) - 7 = 16 * q + (i + 9) by omega, show 16 * q + (i + 16) - 2 = 16 * q + (i + 14) by omega] at e
 exact e
def a8 (L : List Nat) : Array Value := aa 8 (fun j => L.getD j 0)
theorem a8_eq (a b c d e f q h : Nat) : a8 [a, b, c, d, e, f, q, h] = #[.int .u32 (a : Int), .int .u32 (b : Int), .int .u32 (c : Int), .int .u32 (d : Int), .int .u32 (e : Int), .int .u32 (f : Int), .int .u32 (q : Int), .int .u32 (h : Int)] := rfl
theorem info33 : (Tryz.prog.info? 177).map (fun i => (i.zero, i.size, i.bytes)) = some (some (.int .u32 0), 1, 4) := by kernel_rfl
theorem index8 (w : World) (cs : Array Value) (m : Nat) (hm : m < 8) (v : Value) (hv : cs[m]? = some v) : (Instr.index 178 (.agg cs) (.int .i64 (m : Int))).run Tryz.prog w = .ok v w := by
 obtain ⟨i0, hi, hz0, hz1, hz2⟩ := info_parts info33
 have hag : (isAgg 177).run Tryz.prog w = .ok false w := by
  unfold isAgg
  rw [Sem.run_bind, run_underlying Tryz.underlying177 w]
  rfl
 have hso : (sizeOf 177).run Tryz.prog w = .ok 1 w := by simp [sizeOf, typeInfo, hi, hz1]
 have h1 : (0 : Int) ≤ (m : Int) ∧ (m : Int) < ((8 : Nat) : Int) := by omega
 unfold Instr.index
 simp only [asIntOf, Sem.run_bind, Sem.run_pure, Result.andThen_ok, run_underlying Tryz.underlying178 w]
 rw [if_pos h1]
 simp only [Sem.run_bind, hso, Result.andThen_ok, part, hag, Int.toNat_natCast, Nat.mul_one, hv]
 rfl
def Kc (w : World) (K : List Nat) : Prop := ∀ j, j < 64 → w.cell? ⟨5, j, none⟩ = some (.int .u32 ((K.getD j 0 : Nat) : Int))
theorem third_new (w : World) (A B C : Obj) : (((w.alloc A).alloc B).alloc C).heap[w.heap.size + 1 + 1]? = some C := by
 have h := heap_alloc_new ((w.alloc A).alloc B) C
 have e : ((w.alloc A).alloc B).heap.size = w.heap.size + 1 + 1 := by
  show ((w.heap.push A).push B).size = _
  simp
 rw [e] at h
 exact h
def sums (Z L : List Nat) : List Nat := List.zipWith (fun x y => (x + y) % 4294967296) Z L
structure Wds (W : List Nat) (X : Nat → Nat) : Prop where
 len : W.length = 64
 get : ∀ i, i < 64 → W.getD i 0 = X i
 lt : ∀ i, X i < 4294967296
 next : ∀ q i, 16 * q + i < 48 → X (16 * q + (i + 16)) = (X (16 * q + i) + s0w (X (16 * q + (i + 1))) + X (16 * q + (i + 9)) + s1w (X (16 * q + (i + 14)))) % 4294967296
set_option maxRecDepth 1000000 in
theorem block_impl (w : World) (a0 b0 c0 d0 e0 f0 q0 h0 : Nat) (hH : ∀ x ∈ [a0, b0, c0, d0, e0, f0, q0, h0], x < 4294967296) (W : List Nat) (X : Nat → Nat) (hX : Wds W X) (K : List Nat) (hKn : K.length = 64) (hKb : ∀ x ∈ K, x < 4294967296) (hK : Kc w K) :
  Calls Tryz.prog 151 #[.agg (a8 [a0, b0, c0, d0, e0, f0, q0, h0]), .agg (aa 16 X)] w fun e w' => e = .returned (.agg (a8 (sums (rnds K W [a0, b0, c0, d0, e0, f0, q0, h0]) [a0, b0, c0, d0, e0, f0, q0, h0]))) ∧ Below w.heap.size w w' := by
 have hKl : 5 < w.heap.size := World.block_lt_of_cell? w ⟨5, 0, none⟩ (hK 0 (by omega))
 have HK : Hid (Kc w K ∧ K.length = 64 ∧ ∀ x ∈ K, x < 4294967296) := ⟨hK, hKn, hKb⟩
 have HX : Hid (Wds W X) := hX
 have HH : Hid (∀ x ∈ [a0, b0, c0, d0, e0, f0, q0, h0], x < 4294967296) := hH
 clear hK hKn hKb hX hH
 go_enter Tryz.func151, Tryz.ntmps151
 have R0 : Rw (((w.alloc (.cells (a8 [a0, b0, c0, d0, e0, f0, q0, h0]) 178)).alloc (.cells (aa 16 X) 180)).alloc (.cells #[.int .u32 0, .int .u32 0, .int .u32 0, .int .u32 0, .int .u32 0, .int .u32 0, .int .u32 0, .int .u32 0] 178)) w.heap.size 178 8 (fun j => [a0, b0, c0, d0, e0, f0, q0, h0].getD j 0) :=
  Rw.same (Rw.same (w := w.alloc (.cells (a8 [a0, b0, c0, d0, e0, f0, q0, h0]) 178)) (heap_alloc_new w _) ((Below.refl _ _).alloc (Nat.le_refl _) _)) ((Below.refl _ _).alloc (Nat.le_refl _) _)
 have R1 : Rw (((w.alloc (.cells (a8 [a0, b0, c0, d0, e0, f0, q0, h0]) 178)).alloc (.cells (aa 16 X) 180)).alloc (.cells #[.int .u32 0, .int .u32 0, .int .u32 0, .int .u32 0, .int .u32 0, .int .u32 0, .int .u32 0, .int .u32 0] 178)) (w.heap.size + 1) 180 16 X :=
  Rw.same (w := (w.alloc (.cells (a8 [a0, b0, c0, d0, e0, f0, q0, h0]) 178)).alloc (.cells (aa 16 X) 180)) (heap_alloc2_new w _ _) ((Below.refl _ _).alloc (Nat.le_refl _) _)
 have R2 : Rw (((w.alloc (.cells (a8 [a0, b0, c0, d0, e0, f0, q0, h0]) 178)).alloc (.cells (aa 16 X) 180)).alloc (.cells #[.int .u32 0, .int .u32 0, .int .u32 0, .int .u32 0, .int .u32 0, .int .u32 0, .int .u32 0, .int .u32 0] 178)) (w.heap.size + 1 + 1) 178 8 (fun _ => 0) :=
  third_new w _ _ _
 have B0 : Below w.heap.size w (((w.alloc (.cells (a8 [a0, b0, c0, d0, e0, f0, q0, h0]) 178)).alloc (.cells (aa 16 X) 180)).alloc (.cells #[.int .u32 0, .int .u32 0, .int .u32 0, .int .u32 0, .int .u32 0, .int .u32 0, .int .u32 0, .int .u32 0] 178)) :=
  (((Below.refl _ _).alloc (Nat.le_refl _) _).alloc (by simp) _).alloc (by simp; omega) _
 have HR0 : Hid _ := R0
 have HR1 : Hid _ := R1
 have HR2 : Hid _ := R2
 have HB0 : Hid _ := B0
 clear R0 R1 R2 B0
 go_wp2
 generalize (((w.alloc (.cells (a8 [a0, b0, c0, d0, e0, f0, q0, h0]) 178)).alloc (.cells (aa 16 X) 180)).alloc (.cells #[.int .u32 0, .int .u32 0, .int .u32 0, .int .u32 0, .int .u32 0, .int .u32 0, .int .u32 0, .int .u32 0] 178)) = w1 at HR0 HR1 HR2 HB0 ⊢
 have x0 : w1.cell? ⟨w.heap.size, 0, none⟩ = some (.int .u32 (a0 : Int)) := Rw.cell HR0.out 0 (by omega)
 have x1 : w1.cell? ⟨w.heap.size, 1, none⟩ = some (.int .u32 (b0 : Int)) := Rw.cell HR0.out 1 (by omega)
 have x2 : w1.cell? ⟨w.heap.size, 2, none⟩ = some (.int .u32 (c0 : Int)) := Rw.cell HR0.out 2 (by omega)
 have x3 : w1.cell? ⟨w.heap.size, 3, none⟩ = some (.int .u32 (d0 : Int)) := Rw.cell HR0.out 3 (by omega)
 have x4 : w1.cell? ⟨w.heap.size, 4, none⟩ = some (.int .u32 (e0 : Int)) := Rw.cell HR0.out 4 (by omega)
 have x5 : w1.cell? ⟨w.heap.size, 5, none⟩ = some (.int .u32 (f0 : Int)) := Rw.cell HR0.out 5 (by omega)
 have x6 : w1.cell? ⟨w.heap.size, 6, none⟩ = some (.int .u32 (q0 : Int)) := Rw.cell HR0.out 6 (by omega)
 have x7 : w1.cell? ⟨w.heap.size, 7, none⟩ = some (.int .u32 (h0 : Int)) := Rw.cell HR0.out 7 (by omega)
 go_quiet (fail)
 clear x0 x1 x2 x3 x4 x5 x6 x7
 go_wp2
 go_loopw [5, 6, 7, 8, 9, 10, 11, 12, 34] (fun va vb vc vd ve vf vq vh i wr => ∃ n a b c d e f q h : Nat, n ≤ 64 ∧ i = .int .i64 (n : Int) ∧ va = .int .u32 (a : Int) ∧ vb = .int .u32 (b : Int) ∧ vc = .int .u32 (c : Int) ∧ vd = .int .u32 (d : Int) ∧ ve = .int .u32 (e : Int) ∧ vf = .int .u32 (f : Int) ∧ vq = .int .u32 (q : Int) ∧ vh = .int .u32 (h : Int) ∧ Hid (∀ x ∈ [a, b, c, d, e, f, q, h], x < 4294967296) ∧ Hid (rnds (K.drop n) (W.drop n) [a, b, c, d, e, f, q, h] = rnds K W [a0, b0, c0, d0, e0, f0, q0, h0]) ∧ Rw wr w.heap.size 178 8 (fun j => [a0, b0, c0, d0, e0, f0, q0, h0].getD j 0) ∧ Rw wr (w.heap.size + 1) 180 16 (fun j => X (16 * ((n - 1) / 16) + j)) ∧ Rw wr (w.heap.size + 1 + 1) 178 8 (fun _ => 0) ∧ Below w.heap.size w wr) (fun _ _ _ _ _ _ _ _ i _ => 64 - (intOf i).toNat)
 case atStart => exact ⟨0, a0, b0, c0, d0, e0, f0, q0, h0, by omega, rfl, rfl, rfl, rfl, rfl, rfl, rfl, rfl, rfl, HH, rfl, HR0.out, Rw.congr (F := X) HR1.out (fun i hi => by simp), HR2.out, below_drewN HB0.out _⟩
 case round =>
  obtain ⟨n, a, b, c, d, e, f, q, h, hn, rfl, rfl, rfl, rfl, rfl, rfl, rfl, rfl, rfl, hb8, HE, y0, y1, y2, hb⟩ := hrel
  clear HR0 HR1 HR2 HB0
  by_cases hlt : n < 64
  ·by_cases hc : 0 < n ∧ n % 16 = 0
   ·have hd1 : decide (0 < (n : Int)) = true := by simp; omega
    have hd2 : ((n : Int) % 16 == 0) = true := by simp; omega
    have hd3 : ((n : Int).tmod 16 == 0) = true := by rw [Int.tmod_eq_emod_of_nonneg (by omega)]; exact hd2
    have hnx := next_impl wr (fun j => X (16 * ((n - 1) / 16) + j)) (fun i hi => HX.out.next ((n - 1) / 16) i (by omega)) (fun i hi => HX.out.lt _)
    go_wp2_with (refine wpList_load_row rfl 180 _ rfl (w.heap.size + 1) rfl 180 (aa 16 (fun j => X (16 * ((n - 1) / 16) + j))) (0, 0) _ y1 Tryz.underlying180 rfl (size16 _) ?_)
    refine hnx.mono ?_
    rintro e' w5 ⟨rfl, b5⟩
    have x0 := y0.same b5
    have x1 := y1.same b5
    have x2 := y2.same b5
    have xb := hb.trans (b5.mono hb.size)
    clear hnx y0 y1 y2 hb b5
    go_wp2_with (refine wpList_store_row rfl 180 _ _ rfl (w.heap.size + 1) (aa 16 (fun i => X (16 * ((n - 1) / 16) + (i + 16)))) rfl rfl 180 _ x1 (size16 _) (by rw [aa_size, aa_size]) (aa_one _ _) ?_)
    obtain ⟨wz, hwz⟩ : ∃ z, z = w5.setRow (w.heap.size + 1) (aa 16 (fun i => X (16 * ((n - 1) / 16) + (i + 16)))) := ⟨_, rfl⟩
    have z0 : Rw wz w.heap.size 178 8 (fun j => [a0, b0, c0, d0, e0, f0, q0, h0].getD j 0) := by rw [hwz]; exact x0.rowOther (by omega) _
    have z1 : Rw wz (w.heap.size + 1) 180 16 (fun j => X (16 * (n / 16) + j)) := by rw [hwz]; exact Rw.congr (Rw.row x1) (fun i hi => by congr 1; omega)
    have z2 : Rw wz (w.heap.size + 1 + 1) 178 8 (fun _ => 0) := by rw [hwz]; exact x2.rowOther (by omega) _
    have hbz : Below w.heap.size w wz := by rw [hwz]; exact below_setRow xb (by omega) _
    rw [← hwz]
    clear hwz x0 x1 x2 xb hd1 hd2 hd3
    have kk : wz.cell? ⟨5, n, none⟩ = some (.int .u32 ((K.getD n 0 : Nat) : Int)) := by
     rw [hbz.cell (p := ⟨5, n, none⟩) hKl]; exact HK.out.1 n hlt
    have lk : K.getD n 0 < 4294967296 := getD_lt HK.out.2.2 n
    obtain ⟨m, hm⟩ : ∃ m : Nat, n % 16 = m := ⟨_, rfl⟩
    have hm16 : m < 16 := by omega
    have kw : wz.cell? ⟨w.heap.size + 1, m, none⟩ = some (.int .u32 ((X n : Nat) : Int)) := by
     have := Rw.cell z1 m hm16
     rw [show 16 * (n / 16) + m = n by omega] at this
     exact this
    have lw := HX.out.lt n
    have HR : Hid (rnds (K.drop (n + 1)) (W.drop (n + 1)) (rnd8 a b c d e f q h (K.getD n 0) (X n)) = rnds K W [a0, b0, c0, d0, e0, f0, q0, h0]) := by
     show _ = _
     rw [← HE.out, drop_nat (L := K) (k := n) (by rw [HK.out.2.1]; exact hlt), drop_nat (L := W) (k := n) (by rw [HX.out.len]; exact hlt), HX.out.get n hlt, rnds]
    obtain ⟨kn, ekn⟩ : ∃ z, K.getD n 0 = z := ⟨_, rfl⟩
    obtain ⟨wn, ewn⟩ : ∃ z, X n = z := ⟨_, rfl⟩
    rw [ekn] at kk lk HR
    rw [ewn] at kw lw HR
    have la : a < 4294967296 := hb8.out a (by simp)
    have lb : b < 4294967296 := hb8.out b (by simp)
    have lc : c < 4294967296 := hb8.out c (by simp)
    have ld : d < 4294967296 := hb8.out d (by simp)
    have le : e < 4294967296 := hb8.out e (by simp)
    have lf : f < 4294967296 := hb8.out f (by simp)
    have lq : q < 4294967296 := hb8.out q (by simp)
    have lh : h < 4294967296 := hb8.out h (by simp)
    have p1 : ∀ w, _ := fun w => b1_impl w e le
    have p2 : ∀ w, _ := fun w => ch_impl w e f q le lf lq
    have p3 : ∀ w, _ := fun w => b0_impl w a la
    have p4 : ∀ w, _ := fun w => maj_impl w a b c la lb lc
    have v0 : (0 : Int) ≤ (n : Int) := by omega
    have v1 : (n : Int) < 64 := by omega
    have v2 : (n : Int).tmod 16 = (m : Int) := by rw [Int.tmod_eq_emod_of_nonneg (by omega)]; omega
    have v3 : (0 : Int) ≤ (m : Int) := by omega
    have v4 : (m : Int) < 16 := by omega
    have HB8 : Hid (∀ x ∈ rnd8 a b c d e f q h kn wn, x < 4294967296) := by
     intro x hx
     simp only [rnd8, List.mem_cons, List.not_mem_nil, or_false] at hx
     rcases hx with rfl | rfl | rfl | rfl | rfl | rfl | rfl | rfl
     ·exact Nat.mod_lt _ (by decide)
     ·exact la
     ·exact lb
     ·exact lc
     ·exact Nat.mod_lt _ (by decide)
     ·exact le
     ·exact lf
     ·exact lq
    clear ekn ewn hm hm16 HE
    go_quiet (first | (go_at_call 181; exact quiet_eq (p1 _)) | (go_at_call 182; exact quiet_eq (p2 _)))
    generalize nq = N1
    go_wp2_with fail
    refine (p3 _).mono ?_
    rintro e' w' ⟨rfl, rfl⟩
    go_wp2_with fail
    refine (p4 _).mono ?_
    rintro e' w' ⟨rfl, rfl⟩
    clear p1 p2 p3 p4 v2 v3 v4 kk kw
    go_wp2_with fail
    go_roundw
    case rel =>
     exact ⟨n + 1, (t1 e f q h kn wn + t2 a b c) % 4294967296, a, b, c, (d + t1 e f q h kn wn) % 4294967296, e, f, q, by omega, by go_num, congrArg (Value.int .u32) (by unfold t1 t2; omega), rfl, rfl, rfl, congrArg (Value.int .u32) (by unfold t1; omega), rfl, rfl, rfl, HB8, HR, z0, Rw.congr z1 (fun i hi => by rw [Nat.add_sub_cancel]), z2, below_drewN hbz _⟩
    case measure => simp [intOf]; omega
   ·obtain ⟨wz, hwz⟩ : ∃ z, z = wr := ⟨_, rfl⟩
    have z0 : Rw wz w.heap.size 178 8 (fun j => [a0, b0, c0, d0, e0, f0, q0, h0].getD j 0) := by rw [hwz]; exact y0
    have z1 : Rw wz (w.heap.size + 1) 180 16 (fun j => X (16 * (n / 16) + j)) := by rw [hwz]; exact Rw.congr y1 (fun i hi => by congr 1; omega)
    have z2 : Rw wz (w.heap.size + 1 + 1) 178 8 (fun _ => 0) := by rw [hwz]; exact y2
    have hbz : Below w.heap.size w wz := by rw [hwz]; exact hb
    by_cases hn0 : 0 < n
    ·have hd1 : decide (0 < (n : Int)) = true := by simp; omega
     have hd2 : ((n : Int) % 16 == 0) = false := by simp; omega
     have hd3 : ((n : Int).tmod 16 == 0) = false := by rw [Int.tmod_eq_emod_of_nonneg (by omega)]; exact hd2
     go_wp2_with fail
     rw [← hwz]
     clear hwz y0 y1 y2 hb hd1 hd2 hd3
     have kk : wz.cell? ⟨5, n, none⟩ = some (.int .u32 ((K.getD n 0 : Nat) : Int)) := by
      rw [hbz.cell (p := ⟨5, n, none⟩) hKl]; exact HK.out.1 n hlt
     have lk : K.getD n 0 < 4294967296 := getD_lt HK.out.2.2 n
     obtain ⟨m, hm⟩ : ∃ m : Nat, n % 16 = m := ⟨_, rfl⟩
     have hm16 : m < 16 := by omega
     have kw : wz.cell? ⟨w.heap.size + 1, m, none⟩ = some (.int .u32 ((X n : Nat) : Int)) := by
      have := Rw.cell z1 m hm16
      rw [show 16 * (n / 16) + m = n by omega] at this
      exact this
     have lw := HX.out.lt n
     have HR : Hid (rnds (K.drop (n + 1)) (W.drop (n + 1)) (rnd8 a b c d e f q h (K.getD n 0) (X n)) = rnds K W [a0, b0, c0, d0, e0, f0, q0, h0]) := by
      show _ = _
      rw [← HE.out, drop_nat (L := K) (k := n) (by rw [HK.out.2.1]; exact hlt), drop_nat (L := W) (k := n) (by rw [HX.out.len]; exact hlt), HX.out.get n hlt, rnds]
     obtain ⟨kn, ekn⟩ : ∃ z, K.getD n 0 = z := ⟨_, rfl⟩
     obtain ⟨wn, ewn⟩ : ∃ z, X n = z := ⟨_, rfl⟩
     rw [ekn] at kk lk HR
     rw [ewn] at kw lw HR
     have la : a < 4294967296 := hb8.out a (by simp)
     have lb : b < 4294967296 := hb8.out b (by simp)
     have lc : c < 4294967296 := hb8.out c (by simp)
     have ld : d < 4294967296 := hb8.out d (by simp)
     have le : e < 4294967296 := hb8.out e (by simp)
     have lf : f < 4294967296 := hb8.out f (by simp)
     have lq : q < 4294967296 := hb8.out q (by simp)
     have lh : h < 4294967296 := hb8.out h (by simp)
     have p1 : ∀ w, _ := fun w => b1_impl w e le
     have p2 : ∀ w, _ := fun w => ch_impl w e f q le lf lq
     have p3 : ∀ w, _ := fun w => b0_impl w a la
     have p4 : ∀ w, _ := fun w => maj_impl w a b c la lb lc
     have v0 : (0 : Int) ≤ (n : Int) := by omega
     have v1 : (n : Int) < 64 := by omega
     have v2 : (n : Int).tmod 16 = (m : Int) := by rw [Int.tmod_eq_emod_of_nonneg (by omega)]; omega
     have v3 : (0 : Int) ≤ (m : Int) := by omega
     have v4 : (m : Int) < 16 := by omega
     have HB8 : Hid (∀ x ∈ rnd8 a b c d e f q h kn wn, x < 4294967296) := by
      intro x hx
      simp only [rnd8, List.mem_cons, List.not_mem_nil, or_false] at hx
      rcases hx with rfl | rfl | rfl | rfl | rfl | rfl | rfl | rfl
      ·exact Nat.mod_lt _ (by decide)
      ·exact la
      ·exact lb
      ·exact lc
      ·exact Nat.mod_lt _ (by decide)
      ·exact le
      ·exact lf
      ·exact lq
     clear ekn ewn hm hm16 HE
     go_quiet (first | (go_at_call 181; exact quiet_eq (p1 _)) | (go_at_call 182; exact quiet_eq (p2 _)))
     generalize nq = N1
     go_wp2_with fail
     refine (p3 _).mono ?_
     rintro e' w' ⟨rfl, rfl⟩
     go_wp2_with fail
     refine (p4 _).mono ?_
     rintro e' w' ⟨rfl, rfl⟩
     clear p1 p2 p3 p4 v2 v3 v4 kk kw
     go_wp2_with fail
     go_roundw
     case rel =>
      exact ⟨n + 1, (t1 e f q h kn wn + t2 a b c) % 4294967296, a, b, c, (d + t1 e f q h kn wn) % 4294967296, e, f, q, by omega, by go_num, congrArg (Value.int .u32) (by unfold t1 t2; omega), rfl, rfl, rfl, congrArg (Value.int .u32) (by unfold t1; omega), rfl, rfl, rfl, HB8, HR, z0, Rw.congr z1 (fun i hi => by rw [Nat.add_sub_cancel]), z2, below_drewN hbz _⟩
     case measure => simp [intOf]; omega
    ·have hd1 : decide (0 < (n : Int)) = false := by simp; omega
     go_wp2_with fail
     rw [← hwz]
     clear hwz y0 y1 y2 hb hd1
     have kk : wz.cell? ⟨5, n, none⟩ = some (.int .u32 ((K.getD n 0 : Nat) : Int)) := by
      rw [hbz.cell (p := ⟨5, n, none⟩) hKl]; exact HK.out.1 n hlt
     have lk : K.getD n 0 < 4294967296 := getD_lt HK.out.2.2 n
     obtain ⟨m, hm⟩ : ∃ m : Nat, n % 16 = m := ⟨_, rfl⟩
     have hm16 : m < 16 := by omega
     have kw : wz.cell? ⟨w.heap.size + 1, m, none⟩ = some (.int .u32 ((X n : Nat) : Int)) := by
      have := Rw.cell z1 m hm16
      rw [show 16 * (n / 16) + m = n by omega] at this
      exact this
     have lw := HX.out.lt n
     have HR : Hid (rnds (K.drop (n + 1)) (W.drop (n + 1)) (rnd8 a b c d e f q h (K.getD n 0) (X n)) = rnds K W [a0, b0, c0, d0, e0, f0, q0, h0]) := by
      show _ = _
      rw [← HE.out, drop_nat (L := K) (k := n) (by rw [HK.out.2.1]; exact hlt), drop_nat (L := W) (k := n) (by rw [HX.out.len]; exact hlt), HX.out.get n hlt, rnds]
     obtain ⟨kn, ekn⟩ : ∃ z, K.getD n 0 = z := ⟨_, rfl⟩
     obtain ⟨wn, ewn⟩ : ∃ z, X n = z := ⟨_, rfl⟩
     rw [ekn] at kk lk HR
     rw [ewn] at kw lw HR
     have la : a < 4294967296 := hb8.out a (by simp)
     have lb : b < 4294967296 := hb8.out b (by simp)
     have lc : c < 4294967296 := hb8.out c (by simp)
     have ld : d < 4294967296 := hb8.out d (by simp)
     have le : e < 4294967296 := hb8.out e (by simp)
     have lf : f < 4294967296 := hb8.out f (by simp)
     have lq : q < 4294967296 := hb8.out q (by simp)
     have lh : h < 4294967296 := hb8.out h (by simp)
     have p1 : ∀ w, _ := fun w => b1_impl w e le
     have p2 : ∀ w, _ := fun w => ch_impl w e f q le lf lq
     have p3 : ∀ w, _ := fun w => b0_impl w a la
     have p4 : ∀ w, _ := fun w => maj_impl w a b c la lb lc
     have v0 : (0 : Int) ≤ (n : Int) := by omega
     have v1 : (n : Int) < 64 := by omega
     have v2 : (n : Int).tmod 16 = (m : Int) := by rw [Int.tmod_eq_emod_of_nonneg (by omega)]; omega
     have v3 : (0 : Int) ≤ (m : Int) := by omega
     have v4 : (m : Int) < 16 := by omega
     have HB8 : Hid (∀ x ∈ rnd8 a b c d e f q h kn wn, x < 4294967296) := by
      intro x hx
      simp only [rnd8, List.mem_cons, List.not_mem_nil, or_false] at hx
      rcases hx with rfl | rfl | rfl | rfl | rfl | rfl | rfl | rfl
      ·exact Nat.mod_lt _ (by decide)
      ·exact la
      ·exact lb
      ·exact lc
      ·exact Nat.mod_lt _ (by decide)
      ·exact le
      ·exact lf
      ·exact lq
     clear ekn ewn hm hm16 HE
     go_quiet (first | (go_at_call 181; exact quiet_eq (p1 _)) | (go_at_call 182; exact quiet_eq (p2 _)))
     generalize nq = N1
     go_wp2_with fail
     refine (p3 _).mono ?_
     rintro e' w' ⟨rfl, rfl⟩
     go_wp2_with fail
     refine (p4 _).mono ?_
     rintro e' w' ⟨rfl, rfl⟩
     clear p1 p2 p3 p4 v2 v3 v4 kk kw
     go_wp2_with fail
     go_roundw
     case rel =>
      exact ⟨n + 1, (t1 e f q h kn wn + t2 a b c) % 4294967296, a, b, c, (d + t1 e f q h kn wn) % 4294967296, e, f, q, by omega, by go_num, congrArg (Value.int .u32) (by unfold t1 t2; omega), rfl, rfl, rfl, congrArg (Value.int .u32) (by unfold t1; omega), rfl, rfl, rfl, HB8, HR, z0, Rw.congr z1 (fun i hi => by rw [Nat.add_sub_cancel]), z2, below_drewN hbz _⟩
     case measure => simp [intOf]; omega
  ·have hn64 : n = 64 := by omega
   have HZ : Hid ([a, b, c, d, e, f, q, h] = rnds K W [a0, b0, c0, d0, e0, f0, q0, h0]) := by
    have h1 := HE.out
    rw [hn64, List.drop_eq_nil_of_le (show K.length ≤ 64 by rw [HK.out.2.1]; omega), rnds] at h1
    ·exact h1
    ·intro k ks x xs a b c d e f q h h1
     cases h1
   obtain ⟨L, hL⟩ : ∃ L, L = [a0, b0, c0, d0, e0, f0, q0, h0] := ⟨_, rfl⟩
   have hLl : L.length = 8 := by rw [hL]; rfl
   have hLb : ∀ x ∈ L, x < 4294967296 := by rw [hL]; exact HH.out
   have HF : Hid (sums [a, b, c, d, e, f, q, h] L = sums (rnds K W [a0, b0, c0, d0, e0, f0, q0, h0]) [a0, b0, c0, d0, e0, f0, q0, h0]) := by
    show _ = _; rw [HZ.out, hL]
   have y0' : Rw wr w.heap.size 178 8 (fun j => if j < 0 then (sums [a, b, c, d, e, f, q, h] L).getD j 0 else L.getD j 0) := Rw.congr y0 (fun i hi => by rw [if_neg (by omega), hL])
   clear hL HE y0 y1 hlt hn
   go_wp2
   rw [← a8_eq a b c d e f q h]
   obtain ⟨Z, hZ⟩ : ∃ Z, Z = [a, b, c, d, e, f, q, h] := ⟨_, rfl⟩
   have hZl : Z.length = 8 := by rw [hZ]; rfl
   have hZb : ∀ x ∈ Z, x < 4294967296 := by rw [hZ]; exact hb8.out
   rw [← hZ] at HF y0' ⊢
   have HLZ : Hid (L.length = 8 ∧ Z.length = 8 ∧ (∀ x ∈ L, x < 4294967296) ∧ ∀ x ∈ Z, x < 4294967296) := ⟨hLl, hZl, hLb, hZb⟩
   clear hZ hb8 HZ hn64 hLl hZl hLb hZb
   go_loopw [93] (fun i w' => ∃ m : Nat, m ≤ 8 ∧ i = .int .i64 (m : Int) ∧ Rw w' w.heap.size 178 8 (fun j => if j < m then (sums Z L).getD j 0 else L.getD j 0) ∧ Rw w' (w.heap.size + 1 + 1) 178 8 (fun _ => 0) ∧ Below w.heap.size w w') (fun i _ => 8 - (intOf i).toNat)
   case atStart => exact ⟨0, by omega, rfl, y0', y2, hb⟩
   case round =>
    obtain ⟨m, hm, rfl, k0, k2, hbm⟩ := hrel
    clear y0' y2 hb
    by_cases hlt : m < 8
    ·have cz : (a8 Z)[m]? = some (.int .u32 ((Z.getD m 0 : Nat) : Int)) := aa_get 8 _ m hlt
     have cs := Rw.cell k0 m hlt
     rw [if_neg (Nat.lt_irrefl _)] at cs
     have cf := Rw.frozen k0 m
     have lz : Z.getD m 0 < 4294967296 := getD_lt HLZ.out.2.2.2 m
     have ll : L.getD m 0 < 4294967296 := getD_lt HLZ.out.2.2.1 m
     have hs : (sums Z L).getD m 0 = (Z.getD m 0 + L.getD m 0) % 4294967296 := by
      unfold sums
      have h1 : m < Z.length := by rw [HLZ.out.2.1]; exact hlt
      have h2 : m < L.length := by rw [HLZ.out.1]; exact hlt
      simp [List.getD, List.getElem?_zipWith, h1, h2]
     have HS : Hid (Rw (wr.setCell ⟨w.heap.size, m, none⟩ (.int .u32 (((sums Z L).getD m 0 : Nat) : Int))) w.heap.size 178 8 (fun j => if j < m + 1 then (sums Z L).getD j 0 else L.getD j 0)) := Rw.congr (k0.set m ((sums Z L).getD m 0)) (fun j hj => by
      by_cases e : j = m
      ·subst e; rw [if_pos rfl, if_pos (by omega)]
      ·rw [if_neg e]
       by_cases hjk : j < m
       ·rw [if_pos hjk, if_pos (by omega)]
       ·rw [if_neg hjk, if_neg (by omega)])
     rw [hs] at HS
     have HS2 : Hid _ := k2.setOther w.heap.size m (by omega) (.int .u32 (((Z.getD m 0 + L.getD m 0) % 4294967296 : Nat) : Int))
     have HB2 : Hid _ := hbm.setCell (p := ⟨w.heap.size, m, none⟩) (Nat.le_refl _) (.int .u32 (((Z.getD m 0 + L.getD m 0) % 4294967296 : Nat) : Int))
     obtain ⟨zm, ezm⟩ : ∃ z, Z.getD m 0 = z := ⟨_, rfl⟩
     obtain ⟨lm, elm⟩ : ∃ z, L.getD m 0 = z := ⟨_, rfl⟩
     rw [ezm] at cz lz
     rw [elm] at cs ll
     rw [ezm, elm] at HS HS2 HB2
     have hix : ∀ w, (Instr.index 178 (.agg (a8 Z)) (.int .i64 (m : Int))).run Tryz.prog w = .ok (.int .u32 (zm : Int)) w := fun w => index8 w _ m hlt _ cz
     have hsw : ((lm : Int) + (zm : Int)) % 4294967296 = (((zm + lm) % 4294967296 : Nat) : Int) := by omega
     clear hs ezm elm k0 k2 hbm cz
     go_wp2
     go_roundw
     case rel => exact ⟨m + 1, by omega, by go_num, HS.out, HS2.out, HB2.out⟩
     case measure => simp [intOf]; omega
    ·have hm8 : m = 8 := by omega
     subst hm8
     have HG : Hid (Rw wr w.heap.size 178 8 (fun j => (sums Z L).getD j 0)) := Rw.congr k0 (fun i hi => by rw [if_pos hi])
     clear k0
     have e8 : aa 8 (fun j => (sums Z L).getD j 0) = a8 (sums Z L) := rfl
     go_wp2_with (first | (refine wpList_load_row rfl 178 _ rfl w.heap.size rfl 178 (aa 8 (fun j => (sums Z L).getD j 0)) (0, 0) _ HG.out Tryz.underlying178 rfl (size8 _) ?_) | (refine wpList_store_row rfl 178 _ _ rfl (w.heap.size + 1 + 1) (aa 8 (fun j => (sums Z L).getD j 0)) rfl rfl 178 (aa 8 fun _ => 0) k2 (size8 _) (by rw [aa_size, aa_size]) (aa_one _ _) ?_))
     rw [← HF.out]
     exact bodyPost_ret (v := .agg (aa 8 (fun j => (sums Z L).getD j 0))) (results_cell_row rfl _ _ (w.heap.size + 1 + 1) 178 _ (0, 0) _ rfl (Rw.row k2) Tryz.underlying178 rfl (size8 _)) rfl ⟨rfl, below_setRow hbm (by omega) _⟩
end Go.Proofs.YtchonoonclllbaaGreatDoor.Sha

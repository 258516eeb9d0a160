/- Texts in one: ShaI, KpA, KpB. -/
import Derived.Test.YtchonoonclllbaaGreatDoorPh29
import Derived.Test.YtchonoonclllbaaGreatDoorPh15
import Derived.Test.YtchonoonclllbaaGreatDoorPh27
set_option maxHeartbeats 16000000
set_option linter.unusedVariables false
set_option linter.unusedSimpArgs false
namespace Go.Proofs.YtchonoonclllbaaGreatDoor.Sha
open Go.RowKit Mem Laws Bytes
def Glob (w : World) : Prop := (∃ t fr, w.heap[0]? = some (.cells (a8 H0) t fr)) ∧ Kc w KC
theorem Glob.later {w w' : World} (h : Glob w) (hb : Below w.heap.size w w') : Glob w' := by
 obtain ⟨⟨t, fr, h1⟩, h2⟩ := h
 refine ⟨⟨t, fr, (hb.block _ (Array.getElem?_eq_some_iff.1 h1).1).trans h1⟩, fun j hj => ?_⟩
 rw [hb.cell (p := ⟨5, j, none⟩) (World.block_lt_of_cell? w ⟨5, j, none⟩ (h2 j hj))]
 exact h2 j hj
theorem Kc.later {w w' : World} {K : List Nat} (h : Kc w K) (hb : Below w.heap.size w w') : Kc w' K := fun j hj => by
 rw [hb.cell (p := ⟨5, j, none⟩) (World.block_lt_of_cell? w ⟨5, j, none⟩ (h j hj))]
 exact h j hj
theorem wds_of {ys : List Int} (h : Byt ys) : Wds (words ys) (fun i => (words ys).getD i 0) :=
 ⟨words_len ys, fun _ _ => rfl, fun i => getD_lt (words_lt h) i, fun q i hi => next_n 48 _ (by simp) q i hi⟩
theorem first_words (ys : List Int) : aa 16 (wd ys) = aa 16 (fun i => (words ys).getD i 0) := aa_congr (fun i hi => (first_n 48 (wd ys) i hi).symm)
def C8 (w : World) (g : Nat) (a b c d e f q h : Nat) : Prop :=
 w.cell? ⟨g, 0, none⟩ = some (.int .u32 (a : Int)) ∧ w.cell? ⟨g, 1, none⟩ = some (.int .u32 (b : Int)) ∧ w.cell? ⟨g, 2, none⟩ = some (.int .u32 (c : Int)) ∧ w.cell? ⟨g, 3, none⟩ = some (.int .u32 (d : Int)) ∧ w.cell? ⟨g, 4, none⟩ = some (.int .u32 (e : Int)) ∧ w.cell? ⟨g, 5, none⟩ = some (.int .u32 (f : Int)) ∧ w.cell? ⟨g, 6, none⟩ = some (.int .u32 (q : Int)) ∧ w.cell? ⟨g, 7, none⟩ = some (.int .u32 (h : Int))
theorem Rw.c8 {w : World} {g : Nat} {t : TypeId} {a b c d e f q h : Nat} (r : Rw w g t 8 (fun j => [a, b, c, d, e, f, q, h].getD j 0)) : C8 w g a b c d e f q h :=
 ⟨r.cell 0 (by omega), r.cell 1 (by omega), r.cell 2 (by omega), r.cell 3 (by omega), r.cell 4 (by omega), r.cell 5 (by omega), r.cell 6 (by omega), r.cell 7 (by omega)⟩
def put8 (w : World) (g : Nat) (a b c d e f q h : Nat) : World :=
 (((((((w.setCell ⟨g, 0, none⟩ (.int .u32 (a : Int))).setCell ⟨g, 1, none⟩ (.int .u32 (b : Int))).setCell ⟨g, 2, none⟩ (.int .u32 (c : Int))).setCell ⟨g, 3, none⟩ (.int .u32 (d : Int))).setCell ⟨g, 4, none⟩ (.int .u32 (e : Int))).setCell ⟨g, 5, none⟩ (.int .u32 (f : Int))).setCell ⟨g, 6, none⟩ (.int .u32 (q : Int))).setCell ⟨g, 7, none⟩ (.int .u32 (h : Int))
theorem put8_row {w : World} {g : Nat} {t : TypeId} {F : Nat → Nat} (r : Rw w g t 8 F) (a b c d e f q h : Nat) : Rw (put8 w g a b c d e f q h) g t 8 (fun j => [a, b, c, d, e, f, q, h].getD j 0) := by
 refine Rw.congr ((((((((r.set 0 a).set 1 b).set 2 c).set 3 d).set 4 e).set 5 f).set 6 q).set 7 h) (fun i hi => ?_)
 rcases (show i = 0 ∨ i = 1 ∨ i = 2 ∨ i = 3 ∨ i = 4 ∨ i = 5 ∨ i = 6 ∨ i = 7 by omega) with rfl | rfl | rfl | rfl | rfl | rfl | rfl | rfl <;> simp
theorem put8_below {B : Nat} {w0 w : World} {g : Nat} (hb : Below B w0 w) (hg : B ≤ g) (a b c d e f q h : Nat) : Below B w0 (put8 w g a b c d e f q h) :=
 (((((((hb.setCell (p := ⟨g, 0, none⟩) hg _).setCell (p := ⟨g, 1, none⟩) hg _).setCell (p := ⟨g, 2, none⟩) hg _).setCell (p := ⟨g, 3, none⟩) hg _).setCell (p := ⟨g, 4, none⟩) hg _).setCell (p := ⟨g, 5, none⟩) hg _).setCell (p := ⟨g, 6, none⟩) hg _).setCell (p := ⟨g, 7, none⟩) hg _
theorem Sl.fourP (w : World) (a b c d : Int) (t : TypeId) : Sl (w.alloc (.cells #[.int .u8 a, .int .u8 b, .int .u8 c, .int .u8 d] t)) (.slice (some ⟨w.heap.size, 0, none⟩) 4 4) (bs [a, b, c, d]) := Sl.four w a b c d t
theorem blk_sums (L : List Nat) (ys : List Int) (K : List Nat) : sums (rnds K (words ys) L) L = blk L ys K := rfl
theorem block_lit (w : World) (a b c d e f q h : Nat) (hH : ∀ x ∈ [a, b, c, d, e, f, q, h], x < 4294967296) (ys : List Int) (hby : Byt ys) (hK : Kc w KC) (a' b' c' d' e' f' q' h' : Nat) (hL : blk [a, b, c, d, e, f, q, h] ys KC = [a', b', c', d', e', f', q', h']) :
  Calls Tryz.prog 151 #[.agg #[.int .u32 (a : Int), .int .u32 (b : Int), .int .u32 (c : Int), .int .u32 (d : Int), .int .u32 (e : Int), .int .u32 (f : Int), .int .u32 (q : Int), .int .u32 (h : Int)], .agg (aa 16 (wd ys))] w
   fun e w' => e = .returned (.agg #[.int .u32 (a' : Int), .int .u32 (b' : Int), .int .u32 (c' : Int), .int .u32 (d' : Int), .int .u32 (e' : Int), .int .u32 (f' : Int), .int .u32 (q' : Int), .int .u32 (h' : Int)]) ∧ Below w.heap.size w w' := by
 have h1 := block_impl w a b c d e f q h hH (words ys) _ (wds_of hby) KC KC_len KC_lt hK
 rw [blk_sums, hL, a8_eq, a8_eq, ← first_words] at h1
 exact h1
set_option maxRecDepth 1000000 in
theorem digest_impl (w : World) (v : Value) (xs : List Int) (hG : Glob w) (h : Sl w v (bs xs)) (hby : Byt xs) (hx : xs.length ≤ 1000000000000) :
  Calls Tryz.prog 108 #[v] w fun e w' => e = .returned (.string (Plain.txt (digest xs))) ∧ Below w.heap.size w w' := by
 obtain ⟨i0, hi, hz0, hz1, hz2⟩ := info_parts info5
 go_enter Tryz.func108, Tryz.ntmps108
 go_wp2_with fail
 refine (padded_impl w v xs h hx).mono ?_
 rintro e w1 ⟨vp, rfl, op1, b1⟩
 have s1 := b1.size
 obtain ⟨P, hP⟩ : ∃ P, P = padded xs := ⟨_, rfl⟩
 have hPl := padded_len xs
 have hPm := padded_le xs
 have hPb := padded_byt hby
 rw [← hP] at op1 hPl hPm hPb
 have HP : Hid (P = padded xs) := hP
 have hPpos : 0 < P.length := by rw [hP]; simp only [padded, List.length_append, List.length_cons, List.length_nil]; omega
 clear hP
 have G1 := hG.later b1
 obtain ⟨gp, capp, rfl, hgp1, hgp2, hcapp, hcp⟩ := Own.form op1 (by rw [bs_len]; omega)
 rw [bs_len] at hcapp hcp
 rw [bs_len]
 obtain ⟨⟨tg, fr, hg0⟩, hkc⟩ := G1
 have hg0l : 0 < w1.heap.size := (Array.getElem?_eq_some_iff.1 hg0).1
 have r0 : Rw ((w1.alloc (.cells (aa 8 fun _ => 0) 178)).setRow w1.heap.size (a8 H0)) w1.heap.size 178 8 (fun j => H0.getD j 0) := setRow_heap _ _ _ _ _ _ (heap_alloc_new w1 _)
 have b0 : Below w1.heap.size w1 ((w1.alloc (.cells (aa 8 fun _ => 0) 178)).setRow w1.heap.size (a8 H0)) := below_setRow ((Below.refl _ _).alloc (Nat.le_refl _) _) (Nat.le_refl _) _
 have R0 : Hid _ := r0
 have B0 : Hid _ := b0
 have KW : Hid (Kc w1 KC) := hkc
 have HC : Hid (∀ j, j < P.length → w1.cell? ⟨gp, j, none⟩ = (bs P)[j]?) := hcp
 clear r0 b0 hkc hcp op1 h hG
 go_wp2_with (first | (refine wpList_load_row rfl 178 _ rfl 0 rfl tg (a8 H0) fr _ hg0 Tryz.underlying178 rfl (size8 _) ?_) | (refine wpList_store_row rfl 178 _ _ rfl w1.heap.size (a8 H0) rfl rfl 178 (aa 8 fun _ => 0) (heap_alloc_new w1 _) (size8 _) (by rw [aa_size]; exact (aa_size 8 _).symm) (aa_one _ _) ?_))
 go_loopw [5] (fun i wr => ∃ (t a b c d e f q h : Nat), 64 * t ≤ P.length ∧ i = .int .i64 (64 * (t : Int)) ∧ Hid (∀ x ∈ [a, b, c, d, e, f, q, h], x < 4294967296) ∧ Hid (dblocks (P.length / 64 - t) [a, b, c, d, e, f, q, h] (P.drop (64 * t)) = dblocks (P.length / 64) H0 P) ∧ Rw wr w1.heap.size 178 8 (fun j => [a, b, c, d, e, f, q, h].getD j 0) ∧ Below w1.heap.size w1 wr) (fun i _ => P.length + 64 - (intOf i).toNat)
 case atStart => exact ⟨0, _, _, _, _, _, _, _, _, by omega, rfl, H0_lt, rfl, R0.out, B0.out⟩
 case round =>
  obtain ⟨t, a, b, c, d, e, f, q, h, ht, rfl, hb8, HE, hr, hb⟩ := hrel
  have hsz := hb.size
  clear R0 B0
  by_cases hlt : 64 * t < P.length
  ·have h64 : 64 * t + 64 ≤ P.length := by omega
   obtain ⟨ys, hys⟩ : ∃ ys, ys = (P.drop (64 * t)).take 64 := ⟨_, rfl⟩
   have hyl : ys.length = 64 := by rw [hys]; simp; omega
   have hyb : Byt ys := by rw [hys]; exact fun x hx => hPb x (List.mem_of_mem_drop (List.mem_of_mem_take hx))
   have hyc : ∀ j, j < ys.length → wr.drew.cell? ⟨gp, 64 * t + j, none⟩ = (bs ys)[j]? := by
    intro j hj
    rw [hyl] at hj
    show wr.cell? _ = _
    rw [hb.cell (p := ⟨gp, 64 * t + j, none⟩) hgp2, HC.out (64 * t + j) (by omega), bs_get, bs_get, hys, List.getElem?_take, if_pos hj, List.getElem?_drop]
   have hwd := words_impl wr.drew gp P.length capp t ys hyl hyb h64 (by omega) hcapp hyc
   have HN : Hid (dblocks (P.length / 64 - (t + 1)) (blk [a, b, c, d, e, f, q, h] ys KC) (P.drop (64 * (t + 1))) = dblocks (P.length / 64) H0 P) := by
    have h1 := HE.out
    rw [show P.length / 64 - t = (P.length / 64 - (t + 1)) + 1 by omega, dblocks, List.drop_drop, ← hys] at h1
    rw [show 64 * (t + 1) = 64 * t + 64 by omega]
    exact h1
   obtain ⟨a', b', c', d', e', f', q', h', hL⟩ := len8 (blk_len a b c d e f q h ys KC)
   have hLb := blk_lt [a, b, c, d, e, f, q, h] ys KC
   rw [hL] at HN hLb
   have HLb : Hid _ := hLb
   have kr : Kc wr KC := KW.out.later hb
   have hbk : ∀ W, Kc W KC → _ := fun W hW => block_lit W a b c d e f q h hb8.out ys hyb hW a' b' c' d' e' f' q' h' hL
   obtain ⟨x0, x1, x2, x3, x4, x5, x6, x7⟩ := hr.c8
   clear hyl hyc hys hL hLb HE hyb
   go_wp2
   go_region_with (first
    | (go_at_call 152; refine hwd.mono ?_; rintro e5 w5 ⟨rfl, b5⟩; have k5 : Kc w5 KC := Kc.later (w := wr.drew) kr b5; have r5 : Rw w5 w1.heap.size 178 8 (fun j => [a, b, c, d, e, f, q, h].getD j 0) := Rw.same (w := wr.drew) hr b5; obtain ⟨z0, z1, z2, z3, z4, z5, z6, z7⟩ := r5.c8)
    | (go_at_call 151; refine (hbk _ k5).mono ?_; rintro e6 w6 ⟨rfl, b6⟩; have r6 : Rw w6 w1.heap.size 178 8 (fun j => [a, b, c, d, e, f, q, h].getD j 0) := Rw.same (w := w5) r5 b6; obtain ⟨y0, y1, y2, y3, y4, y5, y6, y7⟩ := r6.c8; have f0 := r6.frozen 0; have f1 := r6.frozen 1; have f2 := r6.frozen 2; have f3 := r6.frozen 3; have f4 := r6.frozen 4; have f5 := r6.frozen 5; have f6 := r6.frozen 6; have f7 := r6.frozen 7))
   all_goals
    have HR9 : Hid (Rw (put8 w6 w1.heap.size a' b' c' d' e' f' q' h') w1.heap.size 178 8 (fun j => [a', b', c', d', e', f', q', h'].getD j 0)) := put8_row r6 a' b' c' d' e' f' q' h'
    have HB9 : Hid (Below w1.heap.size w1 (put8 w6 w1.heap.size a' b' c' d' e' f' q' h')) := put8_below ((Below.drew hb).trans ((b5.mono hsz).trans (b6.mono (Nat.le_trans hsz b5.size)))) (Nat.le_refl _) a' b' c' d' e' f' q' h'
    clear hwd hbk x0 x1 x2 x3 x4 x5 x6 x7 y0 y1 y2 y3 y4 y5 y6 y7 z0 z1 z2 z3 z4 z5 z6 z7 f0 f1 f2 f3 f4 f5 f6 f7 r5 r6 k5 kr hr b5 b6
    change Exit.inBlock _ _ _ _ (put8 w6 w1.heap.size a' b' c' d' e' f' q' h')
    generalize put8 w6 w1.heap.size a' b' c' d' e' f' q' h' = w9 at HR9 HB9 ⊢
    go_wp2
    go_roundw
    case rel => exact ⟨t + 1, a', b', c', d', e', f', q', h', by omega, by go_num, HLb, HN, HR9.out, HB9.out⟩
    case measure => simp [intOf]; omega
  ·have hend : P.length / 64 - t = 0 := by omega
   have HF : Hid ([a, b, c, d, e, f, q, h].flatMap be4 = digest xs) := by
    have h1 := HE.out
    rw [hend, dblocks] at h1
    show _ = _
    rw [h1, HP.out]
    rfl
   obtain ⟨Z, hZ⟩ : ∃ Z, Z = [a, b, c, d, e, f, q, h] := ⟨_, rfl⟩
   have hZl : Z.length = 8 := by rw [hZ]; rfl
   have hZb : ∀ x ∈ Z, x < 4294967296 := by rw [hZ]; exact hb8.out
   rw [← hZ] at HF hr
   have HZ : Hid (Z.length = 8 ∧ ∀ x ∈ Z, x < 4294967296) := ⟨hZl, hZb⟩
   clear hZ HE hend hb8 hZl hZb
   have hBw : Below w.heap.size w wr := b1.trans (hb.mono s1)
   obtain ⟨wz, hwz⟩ : ∃ z, z = wr := ⟨_, rfl⟩
   subst hwz
   have hsw := hBw.size
   go_wp2_with (first | (at_make; refine wpList_make_own _ rfl _ _ 22 rfl wz.heap.size 5 i0 (.int .u8 0) 1 Tryz.underlying22 hi hz0 hz1 _ _ _ 32 rfl rfl rfl (by rw [hz2]; omega) (by unfold maxLen; omega) (Nat.le_refl _) ?_))
   intro w2 hown hgrow
   have be : Below wz.heap.size wz w2 := (Below.refl _ _).grown hgrow (Nat.le_refl _) (by simp)
   have oe : Own w2 wz.heap.size w2.heap.size 5 (.slice (some ⟨wz.heap.size, 0, none⟩) 0 32) (bs []) := Own.of hown
   have hr2 := hr.same be
   clear hown hgrow hr
   go_wp2_with (refine wpList_load_row rfl 178 _ rfl w1.heap.size rfl 178 (a8 Z) (0, 0) _ hr2 Tryz.underlying178 rfl (size8 _) ?_)
   go_loopw [6, 25] (fun o i w' => ∃ m : Nat, m ≤ 8 ∧ i = .int .i64 (m : Int) ∧ Own w' wz.heap.size w'.heap.size 5 o (bs ((Z.take m).flatMap be4)) ∧ Below wz.heap.size wz w') (fun _ i _ => 8 - (intOf i).toNat)
   case atStart => exact ⟨0, by omega, rfl, oe, be⟩
   case round =>
    obtain ⟨m, hm, rfl, ho9, hb9⟩ := hrel
    have hs9 := hb9.size
    clear oe be hr2
    by_cases hlt9 : m < 8
    ·have cz : (a8 Z)[m]? = some (.int .u32 ((Z.getD m 0 : Nat) : Int)) := aa_get 8 _ m hlt9
     have lz : Z.getD m 0 < 4294967296 := getD_lt HZ.out.2 m
     have HT : Hid ((Z.take (m + 1)).flatMap be4 = (Z.take m).flatMap be4 ++ be4 (Z.getD m 0)) := by
      show _ = _
      rw [List.take_succ_eq_append_getElem (by rw [HZ.out.1]; exact hlt9), List.flatMap_append]
      simp [List.getD, HZ.out.1, hlt9]
     obtain ⟨zm, ezm⟩ : ∃ z, Z.getD m 0 = z := ⟨_, rfl⟩
     rw [ezm] at cz lz HT
     have hix : ∀ w, (Instr.index 178 (.agg (a8 Z)) (.int .i64 (m : Int))).run Tryz.prog w = .ok (.int .u32 (zm : Int)) w := fun w => index8 w _ m hlt9 _ cz
     have hl : (bs ((Z.take m).flatMap be4)).length ≤ 1000 := by rw [bs_len, flat4]; simp; omega
     have c2 : ∀ a b c d : Int, (bs ((Z.take m).flatMap be4)).length + (bs [a, b, c, d]).length ≤ maxLen := fun a b c d => by simp only [bs_len, List.length_cons, List.length_nil] at *; unfold maxLen; omega
     have c3 : ∀ a b c d : Int, ((bs ((Z.take m).flatMap be4)).length + (bs [a, b, c, d]).length) * 1 ≤ 140737488355328 := fun a b c d => by simp only [bs_len, List.length_cons, List.length_nil] at *; omega
     have c4 : ∀ o, wz.heap.size ≤ (wr.alloc o).heap.size := fun o => by simp; omega
     clear ezm hl cz
     go_wp2_with (at_builtin; go_must (refine wpl_app _ rfl (.tmp 28) (.tmp 40) 22 rfl 5 i0 (.int .u8 0) 1 Tryz.underlying22 hi hz0 hz1 hz2 rfl wz.heap.size _ (bs ((Z.take m).flatMap be4)) rfl (ho9.alloc _) _ rfl _ (Sl.fourP _ _ _ _ _ _) (bs_one _) (c2 _ _ _ _) (c3 _ _ _ _) (c4 _) ?_))
     intro v10 w10 ho10 hb10 hg10
     have E4 : [(zm : Int) / 16777216, (zm : Int) / 65536 % 256, (zm : Int) / 256 % 256, (zm : Int) % 256] = be4 zm := by
      have e1 : (zm : Int) / 16777216 = ((zm / 16777216 % 256 : Nat) : Int) := by omega
      have e2 : (zm : Int) / 65536 % 256 = ((zm / 65536 % 256 : Nat) : Int) := by omega
      have e3 : (zm : Int) / 256 % 256 = ((zm / 256 % 256 : Nat) : Int) := by omega
      have e4 : (zm : Int) % 256 = ((zm % 256 : Nat) : Int) := by omega
      rw [e1, e2, e3, e4]
      rfl
     rw [E4, ← bs_app, ← HT.out] at ho10
     have hb11 : Below wz.heap.size wz w10 := (hb9.alloc hs9 _).trans hb10
     clear E4 c2 c3 c4 hb10 hg10 hix
     go_wp2
     go_roundw
     case rel => exact ⟨m + 1, by omega, by go_num, ho10, hb11⟩
     case measure => simp [intOf]; omega
    ·rw [List.take_of_length_le (by rw [HZ.out.1]; omega), HF.out] at ho9
     have hconv := conv_sl ho9.sl (by rw [← HF.out]; exact flat_byt Z)
     go_wp2
     go_ret
     exact ⟨rfl, hBw.trans (hb9.mono (by omega))⟩
end Go.Proofs.YtchonoonclllbaaGreatDoor.Sha
namespace Go.Proofs.YtchonoonclllbaaGreatDoor.Sr
open Go.RowKit Mem Laws Bytes Sha Tr He Lg
def NoC (w : World) : Prop := ∃ a, Is.At w 6 a
theorem NoC.later {w w' : World} (h : NoC w) (b : Below w.heap.size w w') : NoC w' := by
 obtain ⟨a, h⟩ := h
 exact ⟨a, h.later b⟩
set_option maxRecDepth 1000000 in
theorem giveup_yes (w : World) : Calls Tryz.prog 187 #[.bool true] w fun e w' => e = .returned (.tuple #[]) ∧ w = w' := by
 go_enter Tryz.func187, Tryz.ntmps187
 go_wp2
 go_end0
 exact ⟨rfl, rfl⟩
set_option maxRecDepth 1000000 in
theorem giveup_no (w : World) (h : NoC w) : Calls Tryz.prog 187 #[.bool false] w fun e w' => (∃ u x, e = .panicked [{ v := .iface u x, recovered := false }]) ∧ w = w' := by
 obtain ⟨a, h0, _⟩ := h
 go_enter Tryz.func187, Tryz.ntmps187
 go_wp2
 exact ⟨rfl, ⟨_, _, rfl⟩, rfl⟩
set_option maxRecDepth 1000000 in
theorem sum_impl (w : World) (v : Value) (Y : List Int) (hG : Glob w) (hs : Sl w v (bs Y)) (hb : Byt Y) (hl : Y.length ≤ 1000000000000) :
  Calls Tryz.prog 147 #[v] w fun e w' => e = .returned (.string ((Plain.txt (digest Y)).extract 0 4)) ∧ Below w.heap.size w w' := by
 obtain ⟨d1, d2, d3⟩ := dig4 Y
 have q := digest_impl w v Y hG hs hb hl
 obtain ⟨D, hD⟩ : ∃ D, Plain.txt (digest Y) = D := ⟨_, rfl⟩
 rw [hD] at q d1 d2 d3
 rw [hD]
 have dd : ¬ ((D.size : Int) < 4) := by omega
 have dn : 4 ≤ D.size := by omega
 clear d1 d2 d3 hD
 go_enter Tryz.func147, Tryz.ntmps147
 go_wp2_with fail
 refine q.mono ?_
 rintro e w1 ⟨rfl, b1⟩
 go_wp2
 go_ret
 exact ⟨rfl, b1⟩
def isC (h : Hd) (x : List ByteArray) : Bool := okH h && decide (1 ≤ x.length) && decide (x.length ≤ 200)
theorem isC_iff (h : Hd) (x : List ByteArray) : isC h x = true ↔ okH h = true ∧ 1 ≤ x.length ∧ x.length ≤ 200 := by
 unfold isC
 simp only [Bool.and_eq_true, decide_eq_true_eq, and_assoc]
theorem putC_isC (h : Hd) (x : List ByteArray) : putC h x = if isC h x = true then put h x else [] := by
 unfold putC
 by_cases h1 : isC h x = true
 ·rw [if_pos h1, if_pos ((isC_iff h x).1 h1)]
 ·rw [if_neg h1, if_neg (fun q => h1 ((isC_iff h x).2 q))]
set_option maxRecDepth 1000000 in
theorem iscommit_impl (w : World) (h : Hd) (v : Value) (x : List ByteArray) (hs : Sl w v (ss x)) (hl : x.length ≤ 1000000000000) (hr : h.r.size ≤ 1000000000000) :
  Calls Tryz.prog 142 #[.agg #[.int .i64 h.n, .string h.r], v] w fun e w' => e = .returned (.bool (isC h x)) ∧ Below w.heap.size w w' := by
 have HB : Hid (Below w.heap.size w (w.alloc (.cells #[.int .i64 h.n, .string h.r] 26))) := (Below.refl _ _).alloc (Nat.le_refl _) _
 have q := ok_impl (w.alloc (.cells #[.int .i64 h.n, .string h.r] 26)) h hr
 obtain ⟨ao0, cap0, rfl, hc0⟩ := hs.form
 rw [ss_len] at *
 clear hs
 obtain ⟨R, hR⟩ : ∃ R, isC h x = R := ⟨_, rfl⟩
 rw [hR]
 obtain ⟨A, hA⟩ : ∃ A, okH h = A := ⟨_, rfl⟩
 rw [hA] at q
 unfold isC at hR
 rw [hA] at hR
 generalize x.length = n at *
 have HR : Hid ((A && decide (1 ≤ n) && decide (n ≤ 200)) = R) := hR
 clear hA hR
 go_enter Tryz.func142, Tryz.ntmps142
 go_wp2_with fail
 refine q.mono ?_
 rintro e w1 ⟨rfl, b1⟩
 have b2 : Hid (Below w.heap.size w w1) := HB.out.trans (b1.mono HB.out.size)
 clear b1 q
 cases A
 ·have : R = false := by rw [← HR.out]; rfl
  subst this
  go_wp2
  go_ret
  exact ⟨rfl, b2.out⟩
 ·by_cases h1 : 0 < (n : Int)
  ·have h1' : decide (0 < (n : Int)) = true := decide_eq_true h1
   have e1 : decide (1 ≤ n) = true := decide_eq_true (by omega)
   by_cases h2 : (n : Int) ≤ 200
   ·have h2' : decide ((n : Int) ≤ 200) = true := decide_eq_true h2
    have e2 : decide (n ≤ 200) = true := decide_eq_true (by omega)
    have : R = true := by rw [← HR.out, e1, e2]; rfl
    subst this
    clear e1 e2
    go_wp2
    go_ret
    exact ⟨rfl, b2.out⟩
   ·have h2' : decide ((n : Int) ≤ 200) = false := decide_eq_false h2
    have e2 : decide (n ≤ 200) = false := decide_eq_false (by omega)
    have : R = false := by rw [← HR.out, e1, e2]; rfl
    subst this
    clear e1 e2
    go_wp2
    go_ret
    exact ⟨rfl, b2.out⟩
  ·have h1' : decide (0 < (n : Int)) = false := decide_eq_false h1
   have e1 : decide (1 ≤ n) = false := decide_eq_false (by omega)
   have : R = false := by rw [← HR.out, e1]; rfl
   subst this
   clear e1
   go_wp2
   go_ret
   exact ⟨rfl, b2.out⟩
end Go.Proofs.YtchonoonclllbaaGreatDoor.Sr
namespace Go.Proofs.YtchonoonclllbaaGreatDoor.Sr
open Go.RowKit Mem Laws Bytes
def acc (ps : List (List Int)) (k : Nat) : Nat := (ps.take k).flatten.length
theorem acc_zero (ps : List (List Int)) : acc ps 0 = 0 := by simp [acc]
theorem acc_step {ps : List (List Int)} {k : Nat} {p : List Int} (h : ps[k]? = some p) : acc ps (k + 1) = acc ps k + p.length := by
 unfold acc
 rw [List.take_add_one, h]
 simp
theorem acc_all {ps : List (List Int)} {k : Nat} (h : ps.length ≤ k) : acc ps k = ps.flatten.length := by
 unfold acc
 rw [List.take_of_length_le h]
theorem acc_le (ps : List (List Int)) (k : Nat) : acc ps k ≤ ps.flatten.length := by
 unfold acc
 conv => rhs; rw [← List.take_append_drop k ps, List.flatten_append, List.length_append]
 omega
theorem flat_step {ps : List (List Int)} {k : Nat} {p : List Int} (h : ps[k]? = some p) : (ps.take (k + 1)).flatten = (ps.take k).flatten ++ p := by
 rw [List.take_add_one, h]
 simp
theorem splice_take {L : List Value} {off : Nat} {cs : List Value} (h : off + cs.length ≤ L.length) : (splice L off cs).take (off + cs.length) = L.take off ++ cs := by
 unfold splice
 have h1 : (L.take off).length = off := by rw [List.length_take]; omega
 rw [← List.append_assoc, List.take_append_of_le_length (by rw [List.length_append, h1]; omega), List.take_of_length_le (by rw [List.length_append, h1]; omega)]
set_option maxRecDepth 1000000 in
theorem joined_impl (w : World) (vp : Value) (vs : List Value) (ps : List (List Int)) (hp : Sl w vp vs) (hl : vs.length = ps.length) (hs : ∀ (i : Nat) (v : Value) (p : List Int), vs[i]? = some v → ps[i]? = some p → Sl w v (bs p)) (hn : ps.length ≤ 1000000) (hz : ps.flatten.length ≤ 1000000000000) :
  Calls Tryz.prog 104 #[vp] w fun e w' => ∃ v', e = .returned v' ∧ Own w' w.heap.size w'.heap.size 5 v' (bs ps.flatten) ∧ Below w.heap.size w w' := by
 obtain ⟨i0, hi, hz0, hz1, hz2⟩ := info_parts info5
 have hsz : (Tryz.prog.info? 5).map (·.size) = some 1 := by rw [hi]; simp [hz1]
 have HL : Hid (vs.length = ps.length) := hl
 have HS : Hid (∀ (i : Nat) (v : Value) (p : List Int), vs[i]? = some v → ps[i]? = some p → Sl w v (bs p)) := hs
 have HP : Hid (Sl w vp vs) := hp
 obtain ⟨ao, cap, rfl, hc, _, _⟩ := hp
 obtain ⟨n, hnn⟩ : ∃ n, vs.length = n := ⟨_, rfl⟩
 rw [hnn] at hl hc
 have HN : Hid (vs.length = n ∧ ps.length = n) := ⟨hnn, hl.symm⟩
 have hn1 : n ≤ 1000000 := by omega
 obtain ⟨N, hN⟩ : ∃ N, ps.flatten.length = N := ⟨_, rfl⟩
 have HNN : Hid (ps.flatten.length = N) := hN
 rw [hN] at hz
 have hacc : ∀ k, acc ps k ≤ N := fun k => by rw [← hN]; exact acc_le ps k
 rw [hnn] at HP ⊢
 clear hl hs hnn hN
 have part : ∀ k, k < n → ∀ W, Below w.heap.size w W → ∃ b off v p, ao = some ⟨b, off, none⟩ ∧ ps[k]? = some p ∧ W.cell? ⟨b, off + k, none⟩ = some v ∧ Sl W v (bs p) := by
  intro k hk W hW
  obtain ⟨p, hpk⟩ : ∃ p, ps[k]? = some p := ⟨ps[k]'(by rw [HN.out.2]; exact hk), by simp⟩
  obtain ⟨v, hvk⟩ : ∃ v, vs[k]? = some v := ⟨vs[k]'(by rw [HN.out.1]; exact hk), by simp⟩
  obtain ⟨ao', c', he, _, _, hr⟩ := HP.out.later hW
  rw [HN.out.1] at he hr
  simp only [Value.slice.injEq] at he
  obtain ⟨rfl, _, rfl⟩ := he
  obtain ⟨b, off, he, hcc⟩ := hr (by omega)
  exact ⟨b, off, v, p, he, hpk, by rw [hcc k hk]; exact hvk, (HS.out k v p hvk hpk).later hW⟩
 have PART : Hid (∀ k, k < n → ∀ W, Below w.heap.size w W → ∃ b off v p, ao = some ⟨b, off, none⟩ ∧ ps[k]? = some p ∧ W.cell? ⟨b, off + k, none⟩ = some v ∧ Sl W v (bs p)) := part
 clear part
 go_enter Tryz.func104, Tryz.ntmps104
 go_wp2
 go_loopw [3, 12] (fun s i wr => ∃ k a : Nat, i = .int .i64 (k : Int) ∧ s = .int .i64 (a : Int) ∧ Hid (a = acc ps k) ∧ a ≤ N ∧ k ≤ n ∧ w = wr) (fun _ i _ => n - (intOf i).toNat)
 case atStart => exact ⟨0, 0, rfl, rfl, (acc_zero ps).symm, Nat.zero_le _, Nat.zero_le _, rfl⟩
 case round =>
  obtain ⟨k, a, rfl, rfl, HA, haN, hk, rfl⟩ := hrel
  by_cases hlt : k < n
  ·obtain ⟨b, off, v, p, rfl, hpk, hcell, hsl⟩ := PART.out k hlt w (Below.refl _ _)
   obtain ⟨ao1, cap1, rfl, hc1, _, _⟩ := hsl
   rw [bs_len] at hcell hc1
   have hlt' : (k : Int) < (n : Int) := by omega
   have hst : Hid (a + p.length = acc ps (k + 1)) := by show _ = _; rw [acc_step hpk, ← HA.out]
   have hle := hacc (k + 1)
   have hle2 : a + p.length ≤ N := by rw [hst.out]; exact hle
   have hw1 : IntKind.i64.wrap ((a : Int) + (p.length : Int)) = (a : Int) + (p.length : Int) := by rw [IntKind.wrap_i64]; omega
   clear hpk hle
   go_wp2
   go_roundw
   case rel => exact ⟨k + 1, a + p.length, by go_num, by go_num, hst, hle2, by omega, trivial⟩
   case measure => simp [intOf]; omega
  ·have hlt' : ¬ (k : Int) < (n : Int) := by omega
   have hkn : k = n := by omega
   have haN2 : a = N := by rw [HA.out, hkn, ← HNN.out]; exact acc_all (by rw [HN.out.2]; exact Nat.le_refl _)
   subst haN2
   clear hlt hkn
   go_wp2_with (first | (at_make; refine wpList_make_full _ rfl _ _ 22 rfl w.heap.size 5 i0 (.int .u8 0) 1 Tryz.underlying22 hi hz0 hz1 _ _ _ _ a rfl rfl rfl rfl (by rw [hz2]; omega) (by unfold maxLen; omega) (Nat.le_refl _) ?_))
   intro w1 hown hgrow
   have hbel : Below w.heap.size w w1 := (Below.refl _ _).grown hgrow (Nat.le_refl _) (by simp)
   obtain ⟨L, hown'⟩ : ∃ L, w1.ownsRow w.heap.size 5 1 (.slice (some ⟨w.heap.size, 0, none⟩) a a) a L := ⟨_, hown⟩
   have hblk : w1.heap[w.heap.size]? = some (.cells L.toArray 5 (0, 0)) := full_block hown'
   have hLn : L.length = a := by have := hown'.1; omega
   clear hown hown' hgrow
   go_wp2
   go_loopw [7, 25] (fun s i wr => ∃ (k t : Nat) (M : List Value), i = .int .i64 (k : Int) ∧ s = .int .i64 (t : Int) ∧ Hid (t = acc ps k) ∧ t ≤ a ∧ k ≤ n ∧ Hid (wr.heap[w.heap.size]? = some (.cells M.toArray 5 (0, 0))) ∧ Hid (M.length = a) ∧ Hid (M.take t = bs (ps.take k).flatten) ∧ Hid (Below w.heap.size w wr)) (fun _ i _ => n - (intOf i).toNat)
   case atStart => exact ⟨0, 0, L, rfl, rfl, (acc_zero ps).symm, Nat.zero_le _, Nat.zero_le _, hblk, hLn, by show _ = _; simp [bs], hbel⟩
   case round =>
    obtain ⟨k, t, M, rfl, rfl, HT, hta, hk, HM, HML, HMT, HB⟩ := hrel
    by_cases hlt : k < n
    ·obtain ⟨b, off, v, p, rfl, hpk, hcell, hsl⟩ := PART.out k hlt wr HB.out
     have HSL := hsl
     obtain ⟨ao1, cap1, rfl, hc1, _, hr1⟩ := hsl
     rw [bs_len] at hr1 hc1
     rw [bs_len] at hcell HSL
     have hlt' : (k : Int) < (n : Int) := by omega
     have hst : Hid (t + p.length = acc ps (k + 1)) := by show _ = _; rw [acc_step hpk, ← HT.out]
     have hle2 : t + p.length ≤ a := by rw [hst.out]; exact hacc (k + 1)
     have hw1 : IntKind.i64.wrap ((t : Int) + (p.length : Int)) = (t : Int) + (p.length : Int) := by rw [IntKind.wrap_i64]; omega
     have HFL : Hid ((ps.take (k + 1)).flatten = (ps.take k).flatten ++ p) := flat_step hpk
     obtain ⟨C, hC⟩ : ∃ C, C = bs p := ⟨_, rfl⟩
     have HC : Hid (C = bs p ∧ C.length = p.length) := ⟨hC, by rw [hC, bs_len]⟩
     have HO : Hid (∀ u ∈ C, u.oneCell' = true) := by show ∀ u ∈ C, u.oneCell' = true; rw [hC]; exact bs_one _
     have HSR : Hid (0 < C.length → ∃ ad, ao1 = some ad ∧ ∀ j u, C[j]? = some u → wr.cell? (ad.add j) = some u) := by
      intro hpos
      rw [HC.out.2] at hpos
      obtain ⟨b', off', rfl, hcell'⟩ := hr1 hpos
      refine ⟨_, rfl, fun j u hj => ?_⟩
      rw [Addr.add_lit, hcell' j (by have := (List.getElem?_eq_some_iff.1 hj).1; rw [HC.out.2] at this; exact this), ← HC.out.1]
      exact hj
     have hta' : (t : Int) ≤ (a : Int) := by omega
     have hpa : Hid (C.length = Nat.min p.length (a - t)) := by show C.length = min p.length (a - t); rw [HC.out.2]; omega
     clear hpk HSL hr1 hC
     have hfit : t + C.length ≤ M.length := by rw [HC.out.2, HML.out]; omega
     have HF : Hid (t + C.length ≤ M.length) := hfit
     clear hfit
     by_cases hat : a = t
     ·subst hat
      have hmin : Hid (C.length = Nat.min p.length 0) := by show C.length = min p.length 0; rw [HC.out.2]; omega
      have hpos : Hid (∀ (dp : Option Addr), 0 < C.length → dp = some ⟨w.heap.size, a, none⟩ ∧ ∃ ad, ao1 = some ad ∧ ∀ j u, C[j]? = some u → wr.cell? (ad.add j) = some u) := fun dp h0 => by rw [HC.out.2] at h0; omega
      go_wp2_with (refine wpList_copy_splice rfl (.tmp 32) (.tmp 33) 22 22 rfl 5 Tryz.underlying22 hsz _ _ _ _ _ _ rfl rfl w.heap.size a M 5 HM.out C hmin.out (hpos.out _) HF.out HO.out w.heap.size w HB.out (Nat.le_refl _) ?_)
      intro w2 hg2 hb2
      have hcl : (C.length : Int) = (p.length : Int) := by rw [HC.out.2]
      simp only [HC.out.2]
      go_wp2
      go_roundw
      case rel => exact ⟨k + 1, a + p.length, splice M a C, by go_num, by go_num, hst, hle2, by omega, hg2, by show _ = _; rw [length_splice _ _ _ HF.out]; exact HML.out, by show _ = _; rw [← HC.out.2, splice_take HF.out, HMT.out, HFL.out, bs_app, HC.out.1], hb2⟩
      case measure => simp [intOf]; omega
     ·go_wp2_with (refine wpList_copy_splice rfl (.tmp 32) (.tmp 33) 22 22 rfl 5 Tryz.underlying22 hsz _ _ _ _ _ _ rfl rfl w.heap.size t M 5 HM.out C hpa.out (fun h0 => ⟨rfl, HSR.out h0⟩) HF.out HO.out w.heap.size w HB.out (Nat.le_refl _) ?_)
      intro w2 hg2 hb2
      have hcl : (C.length : Int) = (p.length : Int) := by rw [HC.out.2]
      simp only [HC.out.2]
      go_wp2
      go_roundw
      case rel => exact ⟨k + 1, t + p.length, splice M t C, by go_num, by go_num, hst, hle2, by omega, hg2, by show _ = _; rw [length_splice _ _ _ HF.out]; exact HML.out, by show _ = _; rw [← HC.out.2, splice_take HF.out, HMT.out, HFL.out, bs_app, HC.out.1], hb2⟩
      case measure => simp [intOf]; omega
    ·have hlt' : ¬ (k : Int) < (n : Int) := by omega
     have hkn : k = n := by omega
     have hta2 : t = a := by rw [HT.out, hkn]; exact (acc_all (by rw [HN.out.2]; exact Nat.le_refl _)).trans HNN.out
     have hfin : M = bs ps.flatten := by
      have h9 := HMT.out
      rw [hta2, hkn, List.take_of_length_le (by rw [HML.out]; exact Nat.le_refl _), List.take_of_length_le (by rw [HN.out.2]; exact Nat.le_refl _)] at h9
      exact h9
     have HF2 : Hid (wr.heap[w.heap.size]? = some (.cells (bs ps.flatten).toArray 5 (0, 0))) := by show _ = _; rw [← hfin]; exact HM.out
     clear hfin hta2 hkn
     go_wp2
     go_ret
     refine ⟨_, rfl, ?_, HB.out⟩
     exact Own.of (full_own HF2.out (Nat.le_refl _) (by rw [bs_len]; exact HNN.out) (by unfold maxLen; omega))
end Go.Proofs.YtchonoonclllbaaGreatDoor.Sr

/- Texts in one: ShaI, TsA, TsB. -/
import Derived.Test.YtchonoonclllbaaDoorPk12
import Derived.Test.YtchonoonclllbaaDoorPk8
import Derived.Test.YtchonoonclllbaaDoorPk9
import Derived.WalkSmall
import Derived.BigQuiet
namespace Go.Proofs.YtchonoonclllbaaDoor.Sha
open Go.RowKit Go.Proofs.YtchonoonclllbaaDoor.Mem Go.Proofs.YtchonoonclllbaaDoor.Laws Go.Proofs.YtchonoonclllbaaDoor.Bytes
set_option linter.unusedVariables false
set_option linter.unusedSimpArgs false
def Glob (w : World) : Prop := (∃ t fr, w.heap[0]? = some (.cells (a8 H0) t fr)) ∧ Kc w KC
theorem Glob.later {w w' : World} (h : Glob w) (hb : Below w.heap.size w w') : Glob w' := by
 obtain ⟨⟨t, fr, h1⟩, h2⟩ := h
 refine ⟨⟨t, fr, (hb.block _ (Array.getElem?_eq_some_iff.1 h1).1).trans h1⟩, fun j hj => ?_⟩
 rw [hb.cell (p := ⟨1, j, none⟩) (World.block_lt_of_cell? w ⟨1, j, none⟩ (h2 j hj))]
 exact h2 j hj
theorem Kc.later {w w' : World} {K : List Nat} (h : Kc w K) (hb : Below w.heap.size w w') : Kc w' K := fun j hj => by
 rw [hb.cell (p := ⟨1, j, none⟩) (World.block_lt_of_cell? w ⟨1, j, none⟩ (h j hj))]
 exact h j hj
theorem wds_of {ys : List Int} (h : Byt ys) : Wds (words ys) (fun i => (words ys).getD i 0) :=
 ⟨words_len ys, fun _ _ => rfl, fun i => getD_lt (words_lt h) i, fun q i hi => next_n 48 _ (by simp) q i hi⟩
theorem first_words (ys : List Int) : aa 16 (wd ys) = aa 16 (fun i => (words ys).getD i 0) := aa_congr (fun i hi => (first_n 48 (wd ys) i hi).symm)
def C8 (w : World) (g : Nat) (a b c d e f q h : Nat) : Prop :=
 w.cell? ⟨g, 0, none⟩ = some (.int .u32 (a : Int)) ∧ w.cell? ⟨g, 1, none⟩ = some (.int .u32 (b : Int)) ∧ w.cell? ⟨g, 2, none⟩ = some (.int .u32 (c : Int)) ∧ w.cell? ⟨g, 3, none⟩ = some (.int .u32 (d : Int)) ∧ w.cell? ⟨g, 4, none⟩ = some (.int .u32 (e : Int)) ∧ w.cell? ⟨g, 5, none⟩ = some (.int .u32 (f : Int)) ∧ w.cell? ⟨g, 6, none⟩ = some (.int .u32 (q : Int)) ∧ w.cell? ⟨g, 7, none⟩ = some (.int .u32 (h : Int))
theorem Rw.c8 {w : World} {g : Nat} {t : TypeId} {a b c d e f q h : Nat} (r : Rw w g t 8 (fun j => [a, b, c, d, e, f, q, h].getD j 0)) : C8 w g a b c d e f q h :=
 ⟨r.cell 0 (by omega), r.cell 1 (by omega), r.cell 2 (by omega), r.cell 3 (by omega), r.cell 4 (by omega), r.cell 5 (by omega), r.cell 6 (by omega), r.cell 7 (by omega)⟩
def put8 (w : World) (g : Nat) (a b c d e f q h : Nat) : World :=
 (((((((w.setCell ⟨g, 0, none⟩ (.int .u32 (a : Int))).setCell ⟨g, 1, none⟩ (.int .u32 (b : Int))).setCell ⟨g, 2, none⟩ (.int .u32 (c : Int))).setCell ⟨g, 3, none⟩ (.int .u32 (d : Int))).setCell ⟨g, 4, none⟩ (.int .u32 (e : Int))).setCell ⟨g, 5, none⟩ (.int .u32 (f : Int))).setCell ⟨g, 6, none⟩ (.int .u32 (q : Int))).setCell ⟨g, 7, none⟩ (.int .u32 (h : Int))
theorem put8_row {w : World} {g : Nat} {t : TypeId} {F : Nat → Nat} (r : Rw w g t 8 F) (a b c d e f q h : Nat) : Rw (put8 w g a b c d e f q h) g t 8 (fun j => [a, b, c, d, e, f, q, h].getD j 0) := by
 refine Rw.congr ((((((((r.set 0 a).set 1 b).set 2 c).set 3 d).set 4 e).set 5 f).set 6 q).set 7 h) (fun i hi => ?_)
 rcases (show i = 0 ∨ i = 1 ∨ i = 2 ∨ i = 3 ∨ i = 4 ∨ i = 5 ∨ i = 6 ∨ i = 7 by omega) with rfl | rfl | rfl | rfl | rfl | rfl | rfl | rfl <;> simp
theorem put8_below {B : Nat} {w0 w : World} {g : Nat} (hb : Below B w0 w) (hg : B ≤ g) (a b c d e f q h : Nat) : Below B w0 (put8 w g a b c d e f q h) :=
 (((((((hb.setCell (p := ⟨g, 0, none⟩) hg _).setCell (p := ⟨g, 1, none⟩) hg _).setCell (p := ⟨g, 2, none⟩) hg _).setCell (p := ⟨g, 3, none⟩) hg _).setCell (p := ⟨g, 4, none⟩) hg _).setCell (p := ⟨g, 5, none⟩) hg _).setCell (p := ⟨g, 6, none⟩) hg _).setCell (p := ⟨g, 7, none⟩) hg _
theorem Sl.fourP (w : World) (a b c d : Int) (t : TypeId) : Sl (w.alloc (.cells #[.int .u8 a, .int .u8 b, .int .u8 c, .int .u8 d] t)) (.slice (some ⟨w.heap.size, 0, none⟩) 4 4) (bs [a, b, c, d]) := Sl.four w a b c d t
theorem blk_sums (L : List Nat) (ys : List Int) (K : List Nat) : sums (rnds K (words ys) L) L = blk L ys K := rfl
theorem block_lit (w : World) (a b c d e f q h : Nat) (hH : ∀ x ∈ [a, b, c, d, e, f, q, h], x < 4294967296) (ys : List Int) (hby : Byt ys) (hK : Kc w KC) (a' b' c' d' e' f' q' h' : Nat) (hL : blk [a, b, c, d, e, f, q, h] ys KC = [a', b', c', d', e', f', q', h']) :
  Calls Tryd.prog 46 #[.agg #[.int .u32 (a : Int), .int .u32 (b : Int), .int .u32 (c : Int), .int .u32 (d : Int), .int .u32 (e : Int), .int .u32 (f : Int), .int .u32 (q : Int), .int .u32 (h : Int)], .agg (aa 16 (wd ys))] w
   fun e w' => e = .returned (.agg #[.int .u32 (a' : Int), .int .u32 (b' : Int), .int .u32 (c' : Int), .int .u32 (d' : Int), .int .u32 (e' : Int), .int .u32 (f' : Int), .int .u32 (q' : Int), .int .u32 (h' : Int)]) ∧ Below w.heap.size w w' := by
 have h1 := block_impl w a b c d e f q h hH (words ys) _ (wds_of hby) KC KC_len KC_lt hK
 rw [blk_sums, hL, a8_eq, a8_eq, ← first_words] at h1
 exact h1
set_option maxRecDepth 1000000 in
set_option maxHeartbeats 4000000 in
theorem digest_impl (w : World) (v : Value) (xs : List Int) (hG : Glob w) (h : Sl w v (bs xs)) (hby : Byt xs) (hx : xs.length ≤ 1000000000000) :
  Calls Tryd.prog 34 #[v] w fun e w' => e = .returned (.string (Plain.txt (digest xs))) ∧ Below w.heap.size w w' := by
 obtain ⟨i0, hi, hz0, hz1, hz2⟩ := info_parts info5
 go_enter Tryd.func34, Tryd.ntmps34
 go_wp2_with fail
 refine (padded_impl w v xs h hx).mono ?_
 rintro e w1 ⟨vp, rfl, op1, b1⟩
 have s1 := b1.size
 obtain ⟨P, hP⟩ : ∃ P, P = padded xs := ⟨_, rfl⟩
 have hPl := padded_len xs
 have hPm := padded_le xs
 have hPb := padded_byt hby
 rw [← hP] at op1 hPl hPm hPb
 have HP : Hid (P = padded xs) := hP
 have hPpos : 0 < P.length := by rw [hP]; simp only [padded, List.length_append, List.length_cons, List.length_nil]; omega
 clear hP
 have G1 := hG.later b1
 obtain ⟨gp, capp, rfl, hgp1, hgp2, hcapp, hcp⟩ := Own.form op1 (by rw [bs_len]; omega)
 rw [bs_len] at hcapp hcp
 rw [bs_len]
 obtain ⟨⟨tg, fr, hg0⟩, hkc⟩ := G1
 have hg0l : 0 < w1.heap.size := (Array.getElem?_eq_some_iff.1 hg0).1
 have r0 : Rw ((w1.alloc (.cells (aa 8 fun _ => 0) 63)).setRow w1.heap.size (a8 H0)) w1.heap.size 63 8 (fun j => H0.getD j 0) := setRow_heap _ _ _ _ _ _ (heap_alloc_new w1 _)
 have b0 : Below w1.heap.size w1 ((w1.alloc (.cells (aa 8 fun _ => 0) 63)).setRow w1.heap.size (a8 H0)) := below_setRow ((Below.refl _ _).alloc (Nat.le_refl _) _) (Nat.le_refl _) _
 have R0 : Hid _ := r0
 have B0 : Hid _ := b0
 have KW : Hid (Kc w1 KC) := hkc
 have HC : Hid (∀ j, j < P.length → w1.cell? ⟨gp, j, none⟩ = (bs P)[j]?) := hcp
 clear r0 b0 hkc hcp op1 h hG
 go_wp2_with (first | (refine wpList_load_row rfl 63 _ rfl 0 rfl tg (a8 H0) fr _ hg0 Tryd.underlying63 rfl (size8 _) ?_) | (refine wpList_store_row rfl 63 _ _ rfl w1.heap.size (a8 H0) rfl rfl 63 (aa 8 fun _ => 0) (heap_alloc_new w1 _) (size8 _) (by rw [aa_size]; exact (aa_size 8 _).symm) (aa_one _ _) ?_))
 go_loopw [5] (fun i wr => ∃ (t a b c d e f q h : Nat), 64 * t ≤ P.length ∧ i = .int .i64 (64 * (t : Int)) ∧ Hid (∀ x ∈ [a, b, c, d, e, f, q, h], x < 4294967296) ∧ Hid (dblocks (P.length / 64 - t) [a, b, c, d, e, f, q, h] (P.drop (64 * t)) = dblocks (P.length / 64) H0 P) ∧ Rw wr w1.heap.size 63 8 (fun j => [a, b, c, d, e, f, q, h].getD j 0) ∧ Below w1.heap.size w1 wr) (fun i _ => P.length + 64 - (intOf i).toNat)
 case atStart => exact ⟨0, _, _, _, _, _, _, _, _, by omega, rfl, H0_lt, rfl, R0.out, B0.out⟩
 case round =>
  obtain ⟨t, a, b, c, d, e, f, q, h, ht, rfl, hb8, HE, hr, hb⟩ := hrel
  have hsz := hb.size
  clear R0 B0
  by_cases hlt : 64 * t < P.length
  ·
   have h64 : 64 * t + 64 ≤ P.length := by omega
   obtain ⟨ys, hys⟩ : ∃ ys, ys = (P.drop (64 * t)).take 64 := ⟨_, rfl⟩
   have hyl : ys.length = 64 := by rw [hys]; simp; omega
   have hyb : Byt ys := by rw [hys]; exact fun x hx => hPb x (List.mem_of_mem_drop (List.mem_of_mem_take hx))
   have hyc : ∀ j, j < ys.length → wr.drew.cell? ⟨gp, 64 * t + j, none⟩ = (bs ys)[j]? := by
    intro j hj
    rw [hyl] at hj
    show wr.cell? _ = _
    rw [hb.cell (p := ⟨gp, 64 * t + j, none⟩) hgp2, HC.out (64 * t + j) (by omega), bs_get, bs_get, hys, List.getElem?_take, if_pos hj, List.getElem?_drop]
   have hwd := words_impl wr.drew gp P.length capp t ys hyl hyb h64 (by omega) hcapp hyc
   have HN : Hid (dblocks (P.length / 64 - (t + 1)) (blk [a, b, c, d, e, f, q, h] ys KC) (P.drop (64 * (t + 1))) = dblocks (P.length / 64) H0 P) := by
    have h1 := HE.out
    rw [show P.length / 64 - t = (P.length / 64 - (t + 1)) + 1 by omega, dblocks, List.drop_drop, ← hys] at h1
    rw [show 64 * (t + 1) = 64 * t + 64 by omega]
    exact h1
   obtain ⟨a', b', c', d', e', f', q', h', hL⟩ := len8 (blk_len a b c d e f q h ys KC)
   have hLb := blk_lt [a, b, c, d, e, f, q, h] ys KC
   rw [hL] at HN hLb
   have HLb : Hid _ := hLb
   have kr : Kc wr KC := KW.out.later hb
   have hbk : ∀ W, Kc W KC → _ := fun W hW => block_lit W a b c d e f q h hb8.out ys hyb hW a' b' c' d' e' f' q' h' hL
   obtain ⟨x0, x1, x2, x3, x4, x5, x6, x7⟩ := hr.c8
   clear hyl hyc hys hL hLb HE hyb
   go_wp2
   go_region_with (first
    | (go_at_call 47; refine hwd.mono ?_; rintro e5 w5 ⟨rfl, b5⟩; have k5 : Kc w5 KC := Kc.later (w := wr.drew) kr b5; have r5 : Rw w5 w1.heap.size 63 8 (fun j => [a, b, c, d, e, f, q, h].getD j 0) := Rw.same (w := wr.drew) hr b5; obtain ⟨z0, z1, z2, z3, z4, z5, z6, z7⟩ := r5.c8)
    | (go_at_call 46; refine (hbk _ k5).mono ?_; rintro e6 w6 ⟨rfl, b6⟩; have r6 : Rw w6 w1.heap.size 63 8 (fun j => [a, b, c, d, e, f, q, h].getD j 0) := Rw.same (w := w5) r5 b6; obtain ⟨y0, y1, y2, y3, y4, y5, y6, y7⟩ := r6.c8; have f0 := r6.frozen 0; have f1 := r6.frozen 1; have f2 := r6.frozen 2; have f3 := r6.frozen 3; have f4 := r6.frozen 4; have f5 := r6.frozen 5; have f6 := r6.frozen 6; have f7 := r6.frozen 7))
   all_goals
    have HR9 : Hid (Rw (put8 w6 w1.heap.size a' b' c' d' e' f' q' h') w1.heap.size 63 8 (fun j => [a', b', c', d', e', f', q', h'].getD j 0)) := put8_row r6 a' b' c' d' e' f' q' h'
    have HB9 : Hid (Below w1.heap.size w1 (put8 w6 w1.heap.size a' b' c' d' e' f' q' h')) := put8_below ((Below.drew hb).trans ((b5.mono hsz).trans (b6.mono (Nat.le_trans hsz b5.size)))) (Nat.le_refl _) a' b' c' d' e' f' q' h'
    clear hwd hbk x0 x1 x2 x3 x4 x5 x6 x7 y0 y1 y2 y3 y4 y5 y6 y7 z0 z1 z2 z3 z4 z5 z6 z7 f0 f1 f2 f3 f4 f5 f6 f7 r5 r6 k5 kr hr b5 b6
    change Exit.inBlock _ _ _ _ (put8 w6 w1.heap.size a' b' c' d' e' f' q' h')
    generalize put8 w6 w1.heap.size a' b' c' d' e' f' q' h' = w9 at HR9 HB9 ⊢
    go_wp2
    go_roundw
    case rel => exact ⟨t + 1, a', b', c', d', e', f', q', h', by omega, by go_num, HLb, HN, HR9.out, HB9.out⟩
    case measure => simp [intOf]; omega
  ·
   have hend : P.length / 64 - t = 0 := by omega
   have HF : Hid ([a, b, c, d, e, f, q, h].flatMap be4 = digest xs) := by
    have h1 := HE.out
    rw [hend, dblocks] at h1
    show _ = _
    rw [h1, HP.out]
    rfl
   obtain ⟨Z, hZ⟩ : ∃ Z, Z = [a, b, c, d, e, f, q, h] := ⟨_, rfl⟩
   have hZl : Z.length = 8 := by rw [hZ]; rfl
   have hZb : ∀ x ∈ Z, x < 4294967296 := by rw [hZ]; exact hb8.out
   rw [← hZ] at HF hr
   have HZ : Hid (Z.length = 8 ∧ ∀ x ∈ Z, x < 4294967296) := ⟨hZl, hZb⟩
   clear hZ HE hend hb8 hZl hZb
   have hBw : Below w.heap.size w wr := b1.trans (hb.mono s1)
   obtain ⟨wz, hwz⟩ : ∃ z, z = wr := ⟨_, rfl⟩
   subst hwz
   have hsw := hBw.size
   go_wp2_with (first | (at_make; refine wpList_make_own _ rfl _ _ 27 rfl wz.heap.size 5 i0 (.int .u8 0) 1 Tryd.underlying27 hi hz0 hz1 _ _ _ 32 rfl rfl rfl (by rw [hz2]; omega) (by unfold maxLen; omega) (Nat.le_refl _) ?_))
   intro w2 hown hgrow
   have be : Below wz.heap.size wz w2 := (Below.refl _ _).grown hgrow (Nat.le_refl _) (by simp)
   have oe : Own w2 wz.heap.size w2.heap.size 5 (.slice (some ⟨wz.heap.size, 0, none⟩) 0 32) (bs []) := Own.of hown
   have hr2 := hr.same be
   clear hown hgrow hr
   go_wp2_with (refine wpList_load_row rfl 63 _ rfl w1.heap.size rfl 63 (a8 Z) (0, 0) _ hr2 Tryd.underlying63 rfl (size8 _) ?_)
   go_loopw [6, 25] (fun o i w' => ∃ m : Nat, m ≤ 8 ∧ i = .int .i64 (m : Int) ∧ Own w' wz.heap.size w'.heap.size 5 o (bs ((Z.take m).flatMap be4)) ∧ Below wz.heap.size wz w') (fun _ i _ => 8 - (intOf i).toNat)
   case atStart => exact ⟨0, by omega, rfl, oe, be⟩
   case round =>
    obtain ⟨m, hm, rfl, ho9, hb9⟩ := hrel
    have hs9 := hb9.size
    clear oe be hr2
    by_cases hlt9 : m < 8
    ·
     have cz : (a8 Z)[m]? = some (.int .u32 ((Z.getD m 0 : Nat) : Int)) := aa_get 8 _ m hlt9
     have lz : Z.getD m 0 < 4294967296 := getD_lt HZ.out.2 m
     have HT : Hid ((Z.take (m + 1)).flatMap be4 = (Z.take m).flatMap be4 ++ be4 (Z.getD m 0)) := by
      show _ = _
      rw [List.take_succ_eq_append_getElem (by rw [HZ.out.1]; exact hlt9), List.flatMap_append]
      simp [List.getD, HZ.out.1, hlt9]
     obtain ⟨zm, ezm⟩ : ∃ z, Z.getD m 0 = z := ⟨_, rfl⟩
     rw [ezm] at cz lz HT
     have hix : ∀ w, (Instr.index 63 (.agg (a8 Z)) (.int .i64 (m : Int))).run Tryd.prog w = .ok (.int .u32 (zm : Int)) w := fun w => index8 w _ m hlt9 _ cz
     have hl : (bs ((Z.take m).flatMap be4)).length ≤ 1000 := by rw [bs_len, flat4]; simp; omega
     have c2 : ∀ a b c d : Int, (bs ((Z.take m).flatMap be4)).length + (bs [a, b, c, d]).length ≤ maxLen := fun a b c d => by simp only [bs_len, List.length_cons, List.length_nil] at *; unfold maxLen; omega
     have c3 : ∀ a b c d : Int, ((bs ((Z.take m).flatMap be4)).length + (bs [a, b, c, d]).length) * 1 ≤ 140737488355328 := fun a b c d => by simp only [bs_len, List.length_cons, List.length_nil] at *; omega
     have c4 : ∀ o, wz.heap.size ≤ (wr.alloc o).heap.size := fun o => by simp; omega
     clear ezm hl cz
     go_wp2_with (at_builtin; go_must (refine wpl_app _ rfl (.tmp 28) (.tmp 40) 27 rfl 5 i0 (.int .u8 0) 1 Tryd.underlying27 hi hz0 hz1 hz2 rfl wz.heap.size _ (bs ((Z.take m).flatMap be4)) rfl (ho9.alloc _) _ rfl _ (Sl.fourP _ _ _ _ _ _) (bs_one _) (c2 _ _ _ _) (c3 _ _ _ _) (c4 _) ?_))
     intro v10 w10 ho10 hb10 hg10
     have E4 : [(zm : Int) / 16777216, (zm : Int) / 65536 % 256, (zm : Int) / 256 % 256, (zm : Int) % 256] = be4 zm := by
      have e1 : (zm : Int) / 16777216 = ((zm / 16777216 % 256 : Nat) : Int) := by omega
      have e2 : (zm : Int) / 65536 % 256 = ((zm / 65536 % 256 : Nat) : Int) := by omega
      have e3 : (zm : Int) / 256 % 256 = ((zm / 256 % 256 : Nat) : Int) := by omega
      have e4 : (zm : Int) % 256 = ((zm % 256 : Nat) : Int) := by omega
      rw [e1, e2, e3, e4]
      rfl
     rw [E4, ← bs_app, ← HT.out] at ho10
     have hb11 : Below wz.heap.size wz w10 := (hb9.alloc hs9 _).trans hb10
     clear E4 c2 c3 c4 hb10 hg10 hix
     go_wp2
     go_roundw
     case rel => exact ⟨m + 1, by omega, by go_num, ho10, hb11⟩
     case measure => simp [intOf]; omega
    ·
     rw [List.take_of_length_le (by rw [HZ.out.1]; omega), HF.out] at ho9
     have hconv := conv_sl ho9.sl (by rw [← HF.out]; exact flat_byt Z)
     go_wp2
     go_ret
     exact ⟨rfl, hBw.trans (hb9.mono (by omega))⟩
end Go.Proofs.YtchonoonclllbaaDoor.Sha
namespace Go.Proofs.YtchonoonclllbaaDoor.Tr
open Go.RowKit Go.Proofs.YtchonoonclllbaaDoor.Mem Go.Proofs.YtchonoonclllbaaDoor.Laws Go.Proofs.YtchonoonclllbaaDoor.Bytes Go.Proofs.YtchonoonclllbaaDoor.Sha
set_option linter.unusedVariables false
set_option linter.unusedSimpArgs false
def cats : List ByteArray → List Int
 | [] => []
 | s :: r => sb s ++ cats r
theorem cats_byt : ∀ l, Byt (cats l)
 | [] => by intro x hx; simp [cats] at hx
 | s :: r => (sb_byt s).app (cats_byt r)
set_option maxRecDepth 1000000 in
set_option maxHeartbeats 1000000 in
theorem marked_any (w : World) (m : Int) (vt : Value) (l : List ByteArray) (ht : Sl w vt (ss l)) (hx : (cats l).length ≤ 300000000000) (hl : l.length ≤ 1000000) :
  Calls Tryd.prog 48 #[.int .u8 m, vt] w fun e w' => ∃ v', e = .returned v' ∧ Own w' w.heap.size w'.heap.size 5 v' (bs (m :: cats l)) ∧ Below w.heap.size w w' := by
 obtain ⟨i0, hi, hz0, hz1, hz2⟩ := info_parts info5
 have ho := oneB w w.heap.size m (Nat.le_refl _)
 have hB : Below w.heap.size w (w.alloc (.cells #[.int .u8 m] 5)) := (Below.refl _ _).alloc (Nat.le_refl _) _
 have ht0 := ht
 obtain ⟨ao, cap, rfl, hc, hn, -⟩ := ht
 rw [ss_len] at ht0 ⊢
 go_enter Tryd.func48, Tryd.ntmps48
 go_wp2
 go_loopw [5, 12] (fun b i wr => ∃ (k : Nat) (ys : List Int), k ≤ l.length ∧ i = .int .i64 k ∧ Hid (ys ++ cats (l.drop k) = m :: cats l) ∧ Own wr w.heap.size wr.heap.size 5 b (bs ys) ∧ Below w.heap.size w wr) (fun _ i _ => l.length - (intOf i).toNat)
 case atStart => exact ⟨0, [m], Nat.zero_le _, rfl, rfl, ho, hB⟩
 case round =>
  obtain ⟨k, ys, hk, rfl, HE, hor, hb⟩ := hrel
  have hsz := hb.size
  by_cases hlt : k < l.length
  ·
   obtain ⟨s, hs0⟩ : ∃ s, l[k]? = some s := ⟨l[k], by simp⟩
   have HD : Hid (l.drop k = s :: l.drop (k + 1)) := by
    obtain ⟨hk', rfl⟩ := List.getElem?_eq_some_iff.1 hs0
    exact List.drop_eq_getElem_cons hk'
   have hlen : ys.length + s.size ≤ 300000000001 := by
    have h1 := congrArg List.length HE.out
    rw [HD.out] at h1
    simp only [cats, List.length_append, List.length_cons, sb_len] at h1
    omega
   have hcl : ∃ b off, ao = some ⟨b, off, none⟩ ∧ wr.cell? ⟨b, off + k, none⟩ = some (.string s) := by
    obtain ⟨ao', cap', he, _, _, hr'⟩ := ht0.later hb
    rw [ss_len] at he hr'
    simp only [Value.slice.injEq] at he
    obtain ⟨rfl, _, rfl⟩ := he
    obtain ⟨b, off, he, hc⟩ := hr' (by omega)
    exact ⟨b, off, he, by rw [hc k hlt]; simp [ss, hs0]⟩
   obtain ⟨b, off, rfl, hcell⟩ := hcl
   have HN : Hid ((ys ++ sb s) ++ cats (l.drop (k + 1)) = m :: cats l) := by
    show _ = _; rw [← HE.out, HD.out, List.append_assoc]; rfl
   have c1 : ys.length + s.size ≤ 140737488355328 := by omega
   clear hs0 HD HE ht0 ho hB
   go_wp2_with (at_builtin; go_must (refine wpl_str _ rfl (.tmp 16) (.tmp 17) 27 9 rfl 5 i0 Tryd.underlying27 Tryd.underlying9 hi hz0 hz1 hz2 w.heap.size _ _ rfl hor s rfl c1 hsz ?_); intro v2 w2 ho2 hb2)
   have hb3 : Below w.heap.size w w2 := hb.trans hb2
   go_roundw
   case rel => exact ⟨k + 1, ys ++ sb s, by omega, by go_num, HN, ho2, hb3⟩
   case measure => simp [intOf]; omega
  ·
   have h1 := HE.out
   rw [List.drop_eq_nil_of_le (by omega)] at h1
   simp only [cats, List.append_nil] at h1
   rw [h1] at hor
   have HO : Hid (Own wr w.heap.size wr.heap.size 5 _ (bs (m :: cats l))) := hor
   have HB : Hid (Below w.heap.size w wr) := hb
   clear HE h1 hor hb ht0 ho hB
   go_wp2
   go_ret
   exact ⟨_, rfl, HO.out, HB.out⟩
theorem cats_one (s : ByteArray) : cats [s] = sb s := by simp [cats]
theorem cats_two (a b : ByteArray) : cats [a, b] = sb a ++ sb b := by simp [cats]
theorem mark_byt (m : Int) (h0 : 0 ≤ m) (h1 : m ≤ 255) (l : List ByteArray) : Byt (m :: cats l) := by
 intro x hx
 rcases List.mem_cons.1 hx with rfl | hx
 ·
  exact ⟨h0, h1⟩
 ·
  exact cats_byt l x hx
set_option maxRecDepth 1000000 in
set_option maxHeartbeats 1000000 in
theorem leaf_impl (w : World) (s : ByteArray) (hG : Glob w) (hs : s.size ≤ 100000000000) : Calls Tryd.prog 36 #[.string s] w fun e w' => e = .returned (.string (leafH s)) ∧ Below w.heap.size w w' := by
 have hB : Below w.heap.size w (w.alloc (.cells #[.string s] 9)) := (Below.refl _ _).alloc (Nat.le_refl _) _
 have q := marked_any _ 0 _ [s] (Laws.Sl.one w (.string s) 9) (by simp [cats, sb_len]; omega) (by simp)
 have hq : Byt (0 :: cats [s]) := mark_byt 0 (by omega) (by omega) _
 have hl : (0 :: cats [s]).length ≤ 1000000000000 := by rw [cats_one, List.length_cons, sb_len]; omega
 have q2 : ∀ W v, Below w.heap.size w W → Sl W v (bs (0 :: cats [s])) → _ := fun W v hW h => digest_impl W v (0 :: cats [s]) (hG.later hW) h hq (by omega)
 have HB : Hid (Below w.heap.size w (w.alloc (.cells #[.string s] 9))) := hB
 simp only [cats_one] at q q2
 have HL : Hid (leafH s = Plain.txt (digest (0 :: sb s))) := rfl
 obtain ⟨D, hD⟩ : ∃ D, 0 :: sb s = D := ⟨_, rfl⟩
 simp only [hD] at q q2 HL
 clear hB hq hl hD
 go_enter Tryd.func36, Tryd.ntmps36
 go_wp2_with fail
 refine q.mono ?_
 rintro e w2 ⟨v2, rfl, o2, b2⟩
 have hB2 : Below w.heap.size w w2 := HB.out.trans (b2.mono HB.out.size)
 have q3 := q2 w2 v2 hB2 o2.sl
 have HB2 : Hid (Below w.heap.size w w2) := hB2
 clear o2 b2 q2 hB2
 go_wp2_with fail
 refine q3.mono ?_
 rintro e w3 ⟨rfl, b3⟩
 have hB3 : Below w.heap.size w w3 := HB2.out.trans (b3.mono HB2.out.size)
 go_wp2
 go_ret
 exact ⟨by rw [HL.out]; rfl, hB3⟩
theorem Sl.two (w : World) (a b : ByteArray) : Sl (w.alloc (.cells #[.string a, .string b] 9)) (.slice (some ⟨w.heap.size, 0, none⟩) 2 2) (ss [a, b]) :=
 (Own.of (World.ownsRow_lit (e := 9) (base := w.heap.size) (size := 1) w #[.string a, .string b] 2 (Nat.le_refl _) (by unfold maxLen; omega) rfl)).sl
set_option maxRecDepth 1000000 in
set_option maxHeartbeats 1000000 in
theorem node_impl (w : World) (a b : ByteArray) (hG : Glob w) (ha : a.size ≤ 100000000000) (hb : b.size ≤ 100000000000) : Calls Tryd.prog 38 #[.string a, .string b] w fun e w' => e = .returned (.string (nodeH a b)) ∧ Below w.heap.size w w' := by
 have hB : Below w.heap.size w (w.alloc (.cells #[.string a, .string b] 9)) := (Below.refl _ _).alloc (Nat.le_refl _) _
 have q := marked_any _ 1 _ [a, b] (Sl.two w a b) (by simp [cats, sb_len]; omega) (by simp)
 have hq : Byt (1 :: cats [a, b]) := mark_byt 1 (by omega) (by omega) _
 have hl : (1 :: cats [a, b]).length ≤ 1000000000000 := by rw [cats_two, List.length_cons, List.length_append, sb_len, sb_len]; omega
 have q2 : ∀ W v, Below w.heap.size w W → Sl W v (bs (1 :: cats [a, b])) → _ := fun W v hW h => digest_impl W v (1 :: cats [a, b]) (hG.later hW) h hq (by omega)
 have HB : Hid (Below w.heap.size w (w.alloc (.cells #[.string a, .string b] 9))) := hB
 simp only [cats_two] at q q2
 have HL : Hid (nodeH a b = Plain.txt (digest (1 :: (sb a ++ sb b)))) := rfl
 obtain ⟨D, hD⟩ : ∃ D, 1 :: (sb a ++ sb b) = D := ⟨_, rfl⟩
 simp only [hD] at q q2 HL
 clear hB hq hl hD
 go_enter Tryd.func38, Tryd.ntmps38
 go_wp2_with fail
 refine q.mono ?_
 rintro e w2 ⟨v2, rfl, o2, b2⟩
 have hB2 : Below w.heap.size w w2 := HB.out.trans (b2.mono HB.out.size)
 have q3 := q2 w2 v2 hB2 o2.sl
 have HB2 : Hid (Below w.heap.size w w2) := hB2
 clear o2 b2 q2 hB2
 go_wp2_with fail
 refine q3.mono ?_
 rintro e w3 ⟨rfl, b3⟩
 have hB3 : Below w.heap.size w w3 := HB2.out.trans (b3.mono HB2.out.size)
 go_wp2
 go_ret
 exact ⟨by rw [HL.out]; rfl, hB3⟩
theorem half_log : ∀ y : Fin 256, 1 ≤ y.val → 2 ^ y.val.log2 = half (y.val + 1) := by decide +kernel
theorem log_small : ∀ y : Fin 256, y.val.log2 < 8 := by decide +kernel
set_option maxRecDepth 1000000 in
set_option maxHeartbeats 1000000 in
theorem len64_tab (w : World) (x : Nat) (h1 : 1 ≤ x) (h2 : x ≤ 255) : Calls Tryd.prog 63 #[.int .u64 (x : Int)] w fun e w' => (∃ (b : ByteArray) (hb : x < b.size), e = .returned (.int .i64 (wrap64 (wrap64 (b[x].toNat : Int)))) ∧ ∀ y : Fin 256, 1 ≤ y.val → b.data[y.val]?.map UInt8.toNat = some (y.val.log2 + 1)) ∧ w' = w := by
 have d1 : ¬ (4294967296 : Int) ≤ (x : Int) := by omega
 have d2 : ¬ (65536 : Int) ≤ (x : Int) := by omega
 have d3 : ¬ (256 : Int) ≤ (x : Int) := by omega
 go_enter Tryd.func63, Tryd.ntmps63
 go_wp2
 go_ret
 exact ⟨⟨_, _, rfl, by decide +kernel⟩, rfl⟩
theorem len64_any (w : World) (x : Nat) (h1 : 1 ≤ x) (h2 : x ≤ 255) : Calls Tryd.prog 63 #[.int .u64 (x : Int)] w fun e w' => e = .returned (.int .i64 ((x.log2 : Int) + 1)) ∧ w' = w := by
 refine (len64_tab w x h1 h2).mono ?_
 rintro e w' ⟨⟨b, hb, rfl, ht⟩, rfl⟩
 refine ⟨?_, rfl⟩
 have h := ht ⟨x, by omega⟩ h1
 have hl := log_small ⟨x, by omega⟩
 simp only at h hl
 have e1 : b.data[x]? = some (b[x]'hb) := by
  have hs : x < b.data.size := hb
  rw [Array.getElem?_eq_getElem hs]
  rfl
 rw [e1] at h
 simp only [Option.map_some, Option.some.injEq] at h
 rw [h]
 have e2 : wrap64 (((x.log2 + 1 : Nat)) : Int) = (x.log2 : Int) + 1 := by
  unfold wrap64; omega
 rw [e2]
 have e3 : wrap64 ((x.log2 : Int) + 1) = (x.log2 : Int) + 1 := by
  unfold wrap64; omega
 rw [e3]
set_option maxRecDepth 1000000 in
set_option maxHeartbeats 1000000 in
theorem len_any (w : World) (x : Nat) (h1 : 1 ≤ x) (h2 : x ≤ 255) : Calls Tryd.prog 58 #[.int .u64 (x : Int)] w fun e w' => e = .returned (.int .i64 ((x.log2 : Int) + 1)) ∧ w' = w := by
 have q := len64_any w x h1 h2
 go_enter Tryd.func58, Tryd.ntmps58
 go_wp2_with fail
 refine q.mono ?_
 rintro e w1 ⟨rfl, hw⟩
 have hw := hw.symm
 subst hw
 go_wp2
 go_ret
 exact ⟨rfl, rfl⟩
set_option maxRecDepth 1000000 in
set_option maxHeartbeats 1000000 in
theorem half_impl (w : World) (n : Nat) (h1 : 2 ≤ n) (h2 : n ≤ 256) : Calls Tryd.prog 49 #[.int .i64 (n : Int)] w fun e w' => e = .returned (.int .i64 (half n : Int)) ∧ w' = w := by
 obtain ⟨x, rfl⟩ : ∃ x, n = x + 1 := ⟨n - 1, by omega⟩
 have q := len_any w x (by omega) (by omega)
 have HL := log_small ⟨x, by omega⟩
 have HE : Hid (2 ^ x.log2 = half (x + 1)) := half_log ⟨x, by omega⟩ (by show 1 ≤ x; omega)
 simp only at HL
 obtain ⟨k, hk⟩ : ∃ k, x.log2 = k := ⟨_, rfl⟩
 rw [hk] at q HL HE
 have e0 : ((x + 1 : Nat) : Int) = (x : Int) + 1 := by omega
 have e1 : IntKind.i64.wrap ((x : Int) + 1 - 1) = (x : Int) := by rw [IntKind.wrap_i64]; omega
 have e2 : IntKind.u64.wrap (x : Int) = (x : Int) := by rw [IntKind.wrap_u64]; omega
 have e3 : IntKind.i64.wrap ((k : Int) + 1 - 1) = (k : Int) := by rw [IntKind.wrap_i64]; omega
 clear hk
 rw [e0]
 go_enter Tryd.func49, Tryd.ntmps49
 go_wp2_with fail
 refine q.mono ?_
 rintro e w1 ⟨rfl, hw1⟩
 have hw1 := hw1.symm
 subst hw1
 go_wp2
 go_ret
 refine ⟨?_, rfl⟩
 have hp : 2 ^ k ≤ 128 := Nat.pow_le_pow_right (n := 2) (by omega) (show k ≤ 7 by omega)
 have hc : (2 : Int) ^ k = ((2 ^ k : Nat) : Int) := by simp
 have hw : wrap64 ((2 : Int) ^ k) = (half (x + 1) : Int) := by
  rw [hc, HE.out]
  rw [HE.out] at hp
  unfold wrap64
  omega
 rw [hw]
 rfl
theorem slHalves {w : World} {v : Value} {l : List ByteArray} (h : Sl w v (ss l)) (k : Nat) (h1 : 1 ≤ k) (h2 : k < l.length) : ∃ b off cap, v = .slice (some ⟨b, off, none⟩) l.length cap ∧ l.length ≤ cap ∧
  Sl w (.slice (some ⟨b, off, none⟩) k k) (ss (l.take k)) ∧ Sl w (.slice (some ⟨b, off + k, none⟩) (l.length - k) (l.length - k)) (ss (l.drop k)) := by
 obtain ⟨b, off, cap, rfl, hcap⟩ := slForm h (by rw [ss_len]; omega)
 rw [ss_len] at h hcap ⊢
 have s1 : Sl w (.slice (some ⟨b, off, none⟩) k cap) (ss (l.take k)) := by rw [← ss_take]; exact h.front k (by rw [ss_len]; omega)
 have s2 : Sl w (.slice (some ⟨b, off + k, none⟩) (l.length - k) (cap - k)) (ss (l.drop k)) := by rw [← ss_drop]; exact slBack h k (by rw [ss_len]; omega)
 refine ⟨b, off, cap, rfl, hcap, ?_, ?_⟩
 ·
  obtain ⟨ao', c', he, _, _, hr⟩ := s1
  simp only [Value.slice.injEq] at he
  obtain ⟨rfl, he2, rfl⟩ := he
  exact ⟨_, k, by rw [← he2], by omega, fun h => (by cases h), hr⟩
 ·
  obtain ⟨ao', c', he, _, _, hr⟩ := s2
  simp only [Value.slice.injEq] at he
  obtain ⟨rfl, he2, rfl⟩ := he
  exact ⟨_, l.length - k, by rw [← he2], by omega, fun h => (by cases h), hr⟩
set_option maxRecDepth 1000000 in
set_option maxHeartbeats 1000000 in
theorem halves_any (w : World) (v : Value) (l : List ByteArray) (h : Sl w v (ss l)) (h2 : 2 ≤ l.length) (h3 : l.length ≤ 256) :
  Calls Tryd.prog 37 #[v] w fun e w' => ∃ b off, e = .returned (.tuple #[.slice (some ⟨b, off, none⟩) (half l.length) (half l.length), .slice (some ⟨b, off + half l.length, none⟩) (l.length - half l.length) (l.length - half l.length)]) ∧
   Sl w (.slice (some ⟨b, off, none⟩) (half l.length) (half l.length)) (ss (l.take (half l.length))) ∧ Sl w (.slice (some ⟨b, off + half l.length, none⟩) (l.length - half l.length) (l.length - half l.length)) (ss (l.drop (half l.length))) ∧ Below w.heap.size w w' := by
 obtain ⟨b, off, cap, rfl, hcap, s1, s2⟩ := slHalves h (half l.length) (half_pos h2) (half_ok h2).2.1
 have q0 := half_impl w l.length h2 h3
 have hp := half_pos h2
 have hk := (half_ok h2).2.1
 have HS : Hid (Sl w (.slice (some ⟨b, off, none⟩) (half l.length) (half l.length)) (ss (l.take (half l.length))) ∧ Sl w (.slice (some ⟨b, off + half l.length, none⟩) (l.length - half l.length) (l.length - half l.length)) (ss (l.drop (half l.length)))) := ⟨s1, s2⟩
 clear s1 s2 h
 obtain ⟨k, hkk⟩ : ∃ k, half l.length = k := ⟨_, rfl⟩
 rw [hkk] at q0 hp hk HS ⊢
 clear hkk
 have v1 : (k : Int) ≤ (l.length : Int) := by omega
 have v2 : (k : Int) ≤ (cap : Int) := by omega
 have v3 : (l.length : Int) ≤ (cap : Int) := by omega
 have vne : ¬ cap = k := by omega
 have vnf : ¬ l.length = k := by omega
 go_enter Tryd.func37, Tryd.ntmps37
 go_wp2_with fail
 refine q0.mono ?_
 rintro e w1 ⟨rfl, hw1⟩
 have hw1 := hw1.symm
 subst hw1
 go_wp2_with fail
 go_quiet (fail)
 go_wp2
 go_ret2
 exact ⟨b, off, rfl, HS.out.1, HS.out.2, below_drewN (Below.refl _ _) _⟩
end Go.Proofs.YtchonoonclllbaaDoor.Tr

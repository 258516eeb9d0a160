/- Texts in one: Sha4, Sha5, Can. -/
import Derived.Test.YtchonoonclllbaaGreatDoorPv7
import Derived.Test.YtchonoonclllbaaGreatDoorPv6
namespace Go.Proofs.YtchonoonclllbaaGreatDoor.Sha
open Go.RowKit Go.Proofs.YtchonoonclllbaaGreatDoor.Mem Go.Proofs.YtchonoonclllbaaGreatDoor.Laws Go.Proofs.YtchonoonclllbaaGreatDoor.Bytes
set_option linter.unusedVariables false
set_option linter.unusedSimpArgs false
def KC : List Nat := [1116352408, 1899447441, 3049323471, 3921009573, 961987163, 1508970993, 2453635748, 2870763221, 3624381080, 310598401, 607225278, 1426881987, 1925078388, 2162078206, 2614888103, 3248222580, 3835390401, 4022224774, 264347078, 604807628, 770255983, 1249150122, 1555081692, 1996064986, 2554220882, 2821834349, 2952996808, 3210313671, 3336571891, 3584528711, 113926993, 338241895, 666307205, 773529912, 1294757372, 1396182291, 1695183700, 1986661051, 2177026350, 2456956037, 2730485921, 2820302411, 3259730800, 3345764771, 3516065817, 3600352804, 4094571909, 275423344, 430227734, 506948616, 659060556, 883997877, 958139571, 1322822218, 1537002063, 1747873779, 1955562222, 2024104815, 2227730452, 2361852424, 2428436474, 2756734187, 3204031479, 3329325298]
def H0 : List Nat := [1779033703, 3144134277, 1013904242, 2773480762, 1359893119, 2600822924, 528734635, 1541459225]
theorem KC_len : KC.length = 64 := rfl
theorem KC_lt : ∀ x ∈ KC, x < 4294967296 := by decide
theorem H0_lt : ∀ x ∈ H0, x < 4294967296 := by decide
def dblocks : Nat → List Nat → List Int → List Nat
 | 0, H, _ => H
 | n + 1, H, ys => dblocks n (blk H (ys.take 64) KC) (ys.drop 64)
def be4 (x : Nat) : List Int := [((x / 16777216 % 256 : Nat) : Int), ((x / 65536 % 256 : Nat) : Int), ((x / 256 % 256 : Nat) : Int), ((x % 256 : Nat) : Int)]
def digest (xs : List Int) : List Int := (dblocks ((padded xs).length / 64) H0 (padded xs)).flatMap be4
theorem padded_len (xs : List Int) : (padded xs).length % 64 = 0 := by
 unfold padded zc
 simp [be8]
 omega
theorem padded_le (xs : List Int) : (padded xs).length ≤ xs.length + 73 := by
 unfold padded zc
 simp [be8]
 omega
theorem be8_byt (n : Nat) : Byt (be8 n) := by
 intro x hx
 simp only [be8, List.mem_cons, List.not_mem_nil, or_false] at hx
 omega
theorem padded_byt {xs : List Int} (h : Byt xs) : Byt (padded xs) := by
 unfold padded
 refine ((h.app ?_).app ?_).app (be8_byt _)
 ·
  intro x hx; rw [List.mem_singleton] at hx; omega
 ·
  intro x hx; have := List.eq_of_mem_replicate hx; omega
theorem lit_own (w : World) (lo : Nat) (cs : Array Value) (n : Nat) (L : List Nat) (hn : cs.toList = ns L) (hl : L.length = n) (h : lo ≤ w.heap.size) (hm : n ≤ 1000) : Own (w.alloc (.cells cs 3)) lo (w.alloc (.cells cs 3)).heap.size 3 (.slice (some ⟨w.heap.size, 0, none⟩) n n) (ns L) := by
 have hs : cs.size = n * 1 := by have := congrArg List.length hn; rw [ns_len, hl, Array.length_toList] at this; omega
 have := Own.of (World.ownsRow_lit (e := 3) (base := lo) (size := 1) w cs n h (by unfold maxLen; omega) hs)
 rw [hn] at this
 exact this
set_option maxRecDepth 1000000 in
set_option maxHeartbeats 1000000 in
theorem k_spec (w : World) : Calls Tryz.prog 168 #[] w fun e w' => ∃ v', e = .returned v' ∧ Own w' w.heap.size w'.heap.size 3 v' (ns KC) ∧ Below w.heap.size w w' := by
 go_enter Tryz.func168, Tryz.ntmps168
 go_wp2
 go_ret
 exact ⟨_, rfl, lit_own w _ _ 64 KC rfl rfl (Nat.le_refl _) (by omega), (Below.refl _ _).alloc (Nat.le_refl _) _⟩
theorem flat4 (l : List Nat) : (l.flatMap be4).length = 4 * l.length := by
 induction l with
 | nil => rfl
 | cons x r ih => rw [List.flatMap_cons, List.length_append, ih, List.length_cons]; simp [be4]; omega
theorem be4_byt (x : Nat) : Byt (be4 x) := by
 intro y hy
 simp only [be4, List.mem_cons, List.not_mem_nil, or_false] at hy
 omega
theorem flat_byt (l : List Nat) : Byt (l.flatMap be4) := by
 intro y hy
 obtain ⟨x, _, hx⟩ := List.mem_flatMap.1 hy
 exact be4_byt x y hx
theorem Sl.four (w : World) (a b c d : Int) (t : TypeId) : Sl ((w.alloc (.cells #[.int .u8 a, .int .u8 b, .int .u8 c, .int .u8 d] t)).drew) (.slice (some ⟨w.heap.size, 0, none⟩) 4 4) (bs [a, b, c, d]) := by
 refine ⟨some ⟨w.heap.size, 0, none⟩, 4, rfl, by simp [bs], fun h => (by cases h), fun _ => ⟨w.heap.size, 0, rfl, fun j hj => ?_⟩⟩
 show (w.alloc _).cell? _ = _
 rw [cell_of_row _ w.heap.size (0 + j) #[.int .u8 a, .int .u8 b, .int .u8 c, .int .u8 d] t (0, 0) (heap_alloc_new w _)]
 have h2 : j = 0 ∨ j = 1 ∨ j = 2 ∨ j = 3 := by simp [bs] at hj; omega
 rcases h2 with rfl | rfl | rfl | rfl <;> simp [bs]
theorem len8 {L : List Nat} (h : L.length = 8) : ∃ a b c d e f q r, L = [a, b, c, d, e, f, q, r] := by
 match L, h with
 | [a, b, c, d, e, f, q, r], _ => exact ⟨a, b, c, d, e, f, q, r, rfl⟩
theorem rnds_len (K : List Nat) : ∀ (X v : List Nat), v.length = 8 → (rnds K X v).length = 8 := by
 induction K with
 | nil => intro X v h; rw [rnds]; exact h; intro k ks x xs a b c d e f g h h1; cases h1
 | cons k ks ih =>
  intro X v h
  cases X with
  | nil => rw [rnds]; exact h; intro k ks x xs a b c d e f g h h1 h2; cases h2
  | cons x xs =>
   obtain ⟨a, b, c, d, e, f, q, r, rfl⟩ := len8 h
   rw [rnds]
   exact ih xs _ rfl
theorem blk_len (a b c d e f q h : Nat) (ys : List Int) (K : List Nat) : (blk [a, b, c, d, e, f, q, h] ys K).length = 8 := by
 unfold blk
 rw [List.length_zipWith, rnds_len K _ _ rfl]
 rfl
theorem blk_lt (H : List Nat) (ys : List Int) (K : List Nat) : ∀ x ∈ blk H ys K, x < 4294967296 := by
 intro x hx
 unfold blk at hx
 obtain ⟨j, hj, rfl⟩ := List.getElem_of_mem hx
 rw [List.getElem_zipWith]
 exact Nat.mod_lt _ (by decide)
set_option maxRecDepth 1000000 in
set_option maxHeartbeats 2000000 in
theorem digest_spec (w : World) (v : Value) (xs : List Int) (h : Sl w v (bs xs)) (hby : Byt xs) (hx : xs.length ≤ 1000000000000) :
  Calls Tryz.prog 128 #[v] w fun e w' => e = .returned (.string (Plain.txt (digest xs))) ∧ Below w.heap.size w w' := by
 obtain ⟨i0, hi, hz0, hz1, hz2⟩ := info_parts info5
 go_enter Tryz.func128, Tryz.ntmps128
 go_wp2_with fail
 refine (padded_spec w v xs h hx).mono ?_
 rintro e w1 ⟨vp, rfl, op1, b1⟩
 have s1 := b1.size
 obtain ⟨P, hP⟩ : ∃ P, P = padded xs := ⟨_, rfl⟩
 have hPl := padded_len xs
 have hPm := padded_le xs
 have hPb := padded_byt hby
 rw [← hP] at op1 hPl hPm hPb
 have HP : Hid (P = padded xs) := hP
 have hPpos : 0 < P.length := by rw [hP]; simp only [padded, List.length_append, List.length_cons, List.length_nil]; omega
 clear hP
 have oh0 : ∀ cs : Array Value, cs.toList = ns H0 → Own (w1.alloc (.cells cs 3)) w1.heap.size (w1.alloc (.cells cs 3)).heap.size 3 (.slice (some ⟨w1.heap.size, 0, none⟩) 8 8) (ns H0) := fun cs hcs => lit_own w1 _ cs 8 H0 hcs rfl (Nat.le_refl _) (by omega)
 have ohl := oh0 _ (show (#[.int .i64 1779033703, .int .i64 3144134277, .int .i64 1013904242, .int .i64 2773480762, .int .i64 1359893119, .int .i64 2600822924, .int .i64 528734635, .int .i64 1541459225] : Array Value).toList = ns H0 from rfl)
 have op2 := op1.later ((Below.refl w1.heap.size w1).alloc (Nat.le_refl _) (.cells #[.int .i64 1779033703, .int .i64 3144134277, .int .i64 1013904242, .int .i64 2773480762, .int .i64 1359893119, .int .i64 2600822924, .int .i64 528734635, .int .i64 1541459225] 3)) (Nat.le_refl _)
 go_wp2_with fail
 refine (k_spec _).mono ?_
 rintro e w3 ⟨vk, rfl, ok3, b3⟩
 have oh3 := ohl.later b3 (Nat.le_refl _)
 have op3 := op2.later b3 (by simp)
 have s3 := b3.size
 have s13 : w1.heap.size < w3.heap.size := by have := s3; simp at this; omega
 have hB3 : Below w.heap.size w w3 := (b1.alloc s1 _).trans (b3.mono (by simp; omega))
 obtain ⟨gk, capk, rfl, hgk1, hgk2, hcapk, hck⟩ := Own.form ok3 (by rw [ns_len, KC_len]; omega)
 obtain ⟨gp, capp, rfl, hgp1, hgp2, hcapp, hcp⟩ := Own.form op3 (by rw [bs_len]; omega)
 rw [ns_len, KC_len] at hcapk
 rw [bs_len] at hcapp
 rw [ns_len, KC_len, bs_len]
 clear ohl op2 op1 oh0 ok3 op3
 go_wp2
 go_loopw [4, 6] (fun vh i wr => ∃ (t a b c d e f q h : Nat), 64 * t ≤ P.length ∧ i = .int .i64 (64 * (t : Int)) ∧ (∀ x ∈ [a, b, c, d, e, f, q, h], x < 4294967296) ∧ dblocks (P.length / 64 - t) [a, b, c, d, e, f, q, h] (P.drop (64 * t)) = dblocks (P.length / 64) H0 P ∧ Own wr w1.heap.size wr.heap.size 3 vh (ns [a, b, c, d, e, f, q, h]) ∧ Below w3.heap.size w3 wr) (fun _ i _ => P.length + 64 - (intOf i).toNat)
 case atStart => exact ⟨0, _, _, _, _, _, _, _, _, by omega, rfl, H0_lt, rfl, oh3.mono (Nat.le_refl _) s3, Below.refl _ _⟩
 case round =>
  obtain ⟨t, a, b, c, d, e, f, q, h, ht, rfl, hb8, hE0, ho, hb⟩ := hrel
  have HE : Hid (dblocks (P.length / 64 - t) [a, b, c, d, e, f, q, h] (P.drop (64 * t)) = dblocks (P.length / 64) H0 P) := hE0
  have hsz := hb.size
  have hBw : Below w.heap.size w wr := hB3.trans (hb.mono (by omega))
  clear hE0 oh3
  by_cases hlt : 64 * t < P.length
  ·
   obtain ⟨g, capv, rfl, hg1, hg2, hcapv, hcv⟩ := Own.form ho (by simp [ns])
   have hcapv8 : 8 ≤ capv := by simpa [ns] using hcapv
   have hlen8 : (ns [a, b, c, d, e, f, q, h]).length = 8 := by simp [ns]
   rw [hlen8]
   have h64 : 64 * t + 64 ≤ P.length := by omega
   have hyl : ((P.drop (64 * t)).take 64).length = 64 := by simp; omega
   have hyb : Byt ((P.drop (64 * t)).take 64) := fun x hx => hPb x (List.mem_of_mem_drop (List.mem_of_mem_take hx))
   have hyc : ∀ j, j < ((P.drop (64 * t)).take 64).length → wr.cell? ⟨gp, 64 * t + j, none⟩ = (bs ((P.drop (64 * t)).take 64))[j]? := by
    intro j hj
    rw [hyl] at hj
    rw [hb.cell (p := ⟨gp, 64 * t + j, none⟩) (show gp < w3.heap.size by omega), hcp (64 * t + j) (by rw [bs_len]; omega), bs_get, bs_get, List.getElem?_take, if_pos hj, List.getElem?_drop]
   have hkc : ∀ j, j < (ns KC).length → wr.cell? ⟨gk, 0 + j, none⟩ = (ns KC)[j]? := by
    intro j hj
    rw [Nat.zero_add, hb.cell (p := ⟨gk, j, none⟩) (show gk < w3.heap.size by omega)]; exact hck j hj
   have hhc : ∀ j, j < (ns [a, b, c, d, e, f, q, h]).length → wr.cell? ⟨g, 0 + j, none⟩ = (ns [a, b, c, d, e, f, q, h])[j]? := by
    intro j hj
    rw [Nat.zero_add]; exact hcv j hj
   have hblk := block_spec wr g 0 capv gp (64 * t) (capp - 64 * t) gk 0 capk a b c d e f q h _ KC hb8 hhc hcapv8 hyl (by omega) hyb hyc KC_len KC_lt hkc (by omega)
   have HN : Hid (dblocks (P.length / 64 - (t + 1)) (blk [a, b, c, d, e, f, q, h] ((P.drop (64 * t)).take 64) KC) (P.drop (64 * (t + 1))) = dblocks (P.length / 64) H0 P) := by
    have h1 := HE.out
    rw [show P.length / 64 - t = (P.length / 64 - (t + 1)) + 1 by omega, dblocks, List.drop_drop] at h1
    rw [show 64 * (t + 1) = 64 * t + 64 by omega]
    exact h1
   clear hyl hyb hyc hkc hhc hcv hcapv hlen8 HE
   obtain ⟨a', b', c', d', e', f', q', h', hL⟩ := len8 (blk_len a b c d e f q h ((P.drop (64 * t)).take 64) KC)
   have hLb := blk_lt [a, b, c, d, e, f, q, h] ((P.drop (64 * t)).take 64) KC
   rw [hL] at hblk HN hLb
   clear hL hb8 ho
   go_wp2_with fail
   refine hblk.mono ?_
   rintro e w5 ⟨v5, rfl, o5, b5⟩
   have hb5 : Below w3.heap.size w3 w5 := hb.trans (b5.mono hsz)
   have o5' := o5.mono (show w1.heap.size ≤ wr.heap.size by omega) (Nat.le_refl _)
   clear hblk
   go_wp2
   go_roundw
   case rel => exact ⟨t + 1, a', b', c', d', e', f', q', h', by omega, by go_num, hLb, HN.out, o5', hb5⟩
   case measure => simp [intOf]; omega
  ·
   have hend : P.length / 64 - t = 0 := by omega
   have HF : Hid ([a, b, c, d, e, f, q, h].flatMap be4 = digest xs) := by
    have h1 := HE.out
    rw [hend, dblocks] at h1
    show _ = _
    rw [h1, HP.out]
    rfl
   obtain ⟨Z, hZ⟩ : ∃ Z, Z = [a, b, c, d, e, f, q, h] := ⟨_, rfl⟩
   have hZl : Z.length = 8 := by rw [hZ]; rfl
   rw [← hZ] at HF hb8 ho
   obtain ⟨g, capv, rfl, hg1, hg2, hcapv, hcv⟩ := Own.form ho (by rw [ns_len, hZl]; omega)
   rw [ns_len, hZl] at hcapv
   rw [ns_len, hZl]
   obtain ⟨wz, hwz⟩ : ∃ z, z = wr := ⟨_, rfl⟩
   subst hwz
   have oe := Own.emptyB wz wz.heap.size (Nat.le_refl _)
   have be : Below wz.heap.size wz (wz.alloc (.cells #[] 5)) := (Below.refl _ _).alloc (Nat.le_refl _) _
   clear hZ HE ho hend
   go_wp2
   go_loopw [7, 8] (fun o i w' => ∃ m : Nat, m ≤ 8 ∧ i = .int .i64 (m : Int) ∧ Own w' wz.heap.size w'.heap.size 5 o (bs ((Z.take m).flatMap be4)) ∧ Below wz.heap.size wz w') (fun _ i _ => 8 - (intOf i).toNat)
   case atStart => exact ⟨0, by omega, rfl, oe, be⟩
   case round =>
    obtain ⟨m, hm, rfl, ho9, hb9⟩ := hrel
    have hs9 := hb9.size
    clear oe be
    by_cases hlt9 : m < 8
    ·
     have kz : wr.cell? ⟨g, m, none⟩ = some (.int .i64 ((Z.getD m 0 : Nat) : Int)) := by
      rw [hb9.cell (p := ⟨g, m, none⟩) hg2]; exact ns_cell hcv m (by omega)
     have lz : Z.getD m 0 < 4294967296 := getD_lt hb8 m
     have HT : Hid ((Z.take (m + 1)).flatMap be4 = (Z.take m).flatMap be4 ++ be4 (Z.getD m 0)) := by
      show _ = _
      rw [List.take_succ_eq_append_getElem (by omega), List.flatMap_append]
      simp [List.getD, hZl, hlt9]
     obtain ⟨zm, ezm⟩ : ∃ z, Z.getD m 0 = z := ⟨_, rfl⟩
     rw [ezm] at kz lz HT
     have hl : (bs ((Z.take m).flatMap be4)).length ≤ 1000 := by rw [bs_len, flat4]; simp; omega
     have c2 : ∀ a b c d : Int, (bs ((Z.take m).flatMap be4)).length + (bs [a, b, c, d]).length ≤ maxLen := fun a b c d => by simp only [bs_len, List.length_cons, List.length_nil] at *; unfold maxLen; omega
     have c3 : ∀ a b c d : Int, ((bs ((Z.take m).flatMap be4)).length + (bs [a, b, c, d]).length) * 1 ≤ 140737488355328 := fun a b c d => by simp only [bs_len, List.length_cons, List.length_nil] at *; omega
     have c4 : ∀ o, wz.heap.size ≤ ((wr.alloc o).drew).heap.size := fun o => by simp; omega
     have ho' : ∀ o, Own ((wr.alloc o).drew) wz.heap.size ((wr.alloc o).drew).heap.size 5 _ (bs ((Z.take m).flatMap be4)) := fun o => Own.alloc ho9 o
     have z0 : (0 : Int) ≤ (m : Int) := by omega
     have z1 : (m : Int) < 8 := by omega
     have nn := World.new_ne wr ⟨g, m, none⟩ kz
     clear ezm hl hcv
     go_wp2
     go_region_held3 (fun w' => w'.cell? ⟨g, m, none⟩ = some (.int .i64 (zm : Int))) (first | go_keep | (rw [hb10.cell (by exact hg2)]; assumption))
      ((refine step_app (by rfl) (.tmp 32) (.tmp 56) 22 (by rfl) 5 i0 (.int .u8 0) 1 Tryz.underlying22 hi hz0 hz1 hz2 rfl wz.heap.size _ _ (by rfl) (ho' _) _ (by rfl) _ (Sl.four wr _ _ _ _ _) (bs_one _) (c2 _ _ _ _) (c3 _ _ _ _) (c4 _) ?_; intro v10 w10 ho10 hb10))
     have E4 : [IntKind.u8.wrap ((zm : Int) / 16777216), IntKind.u8.wrap ((zm : Int) / 65536), IntKind.u8.wrap ((zm : Int) / 256), IntKind.u8.wrap (zm : Int)] = be4 zm := by
      simp only [IntKind.wrap_u8, be4]
      congr 1 <;> simp
     rw [E4, ← bs_app, ← HT.out] at ho10
     have hb11 : Below wz.heap.size wz w10 := (Below.drew (hb9.alloc hs9 _)).trans hb10
     clear E4 c2 c3 c4 ho' hb10 nn kz
     go_wp2
     go_roundw
     case rel => exact ⟨m + 1, by omega, by go_num, ho10, hb11⟩
     case measure => simp [intOf]; omega
    ·
     rw [List.take_of_length_le (by omega), HF.out] at ho9
     have hconv := conv_sl ho9.sl (by rw [← HF.out]; exact flat_byt Z)
     go_wp2
     go_ret
     exact ⟨rfl, hBw.trans (hb9.mono (by omega))⟩
end Go.Proofs.YtchonoonclllbaaGreatDoor.Sha
namespace Go.Proofs.YtchonoonclllbaaGreatDoor.Sha
open Go.Proofs.YtchonoonclllbaaGreatDoor.Mem Go.Proofs.YtchonoonclllbaaGreatDoor.Laws
theorem blk_len8 {H : List Nat} (h : H.length = 8) (ys : List Int) (K : List Nat) : (blk H ys K).length = 8 := by
 obtain ⟨a, b, c, d, e, f, q, r, rfl⟩ := len8 h
 exact blk_len a b c d e f q r ys K
theorem dblocks_len (n : Nat) : ∀ (H : List Nat) (ys : List Int), H.length = 8 → (dblocks n H ys).length = 8 := by
 induction n with
 | zero => intro H ys h; exact h
 | succ n ih => intro H ys h; rw [dblocks]; exact ih _ _ (blk_len8 h _ _)
theorem digest_len (xs : List Int) : (digest xs).length = 32 := by
 unfold digest
 rw [flat4, dblocks_len _ _ _ rfl]
theorem digest_byt (xs : List Int) : Byt (digest xs) := flat_byt _
theorem txt_size (l : List Int) : (Plain.txt l).size = l.length := by
 show (Plain.txt l).data.size = _
 simp [Plain.txt, Plain.u8s]
theorem sb_txt {l : List Int} (h : Byt l) : sb (Plain.txt l) = l := by
 unfold sb Plain.txt Plain.u8s
 simp only [List.map_map]
 have e : ∀ x ∈ l, ((fun b : UInt8 => (b.toNat : Int)) ∘ fun x : Int => UInt8.ofNat x.toNat) x = x := fun x hx => Plain.u8_back (h x hx)
 rw [List.map_congr_left e]
 simp
end Go.Proofs.YtchonoonclllbaaGreatDoor.Sha
namespace Go.Proofs.YtchonoonclllbaaGreatDoor.Can
open Go.RowKit Go.Proofs.YtchonoonclllbaaGreatDoor.Mem Go.Proofs.YtchonoonclllbaaGreatDoor.Laws Go.Proofs.YtchonoonclllbaaGreatDoor.Sha
set_option linter.unusedVariables false
set_option linter.unusedSimpArgs false
theorem dec_canon : ∀ (l : List Int) (k : Nat) (N W n : Int) (k' : Nat), Plain.dec k N W l = some (n, k') → Byt l → ∃ m : Nat, n = N + (m : Int) * W ∧ k' = k + (Plain.enc m).length ∧ l = Plain.enc m ++ l.drop (Plain.enc m).length ∧ (0 < k → 0 < m) := by
 intro l
 induction l with
 | nil => intro k N W n k' h; simp [Plain.dec] at h
 | cons c r ih =>
  intro k N W n k' h hb
  have hc : 0 ≤ c ∧ c ≤ 255 := hb c (by simp)
  rw [Plain.dec] at h
  split at h
  ·
   cases h
  ·
   split at h
   ·
    rename_i h5 h128
    obtain ⟨m, hn, hk, hl, hm⟩ := ih _ _ _ _ _ h (fun x hx => hb x (by simp [hx]))
    have hm0 := hm (by omega)
    obtain ⟨d, hd⟩ : ∃ d : Nat, c = (d : Int) := ⟨c.toNat, by omega⟩
    subst hd
    have e1 : (d % 128 + 128 * m) % 128 + 128 = d := by omega
    have e2 : (d % 128 + 128 * m) / 128 = m := by omega
    have henc : Plain.enc (d % 128 + 128 * m) = (d : Int) :: Plain.enc m := by rw [Plain.enc_step (by omega), e1, e2]
    refine ⟨d % 128 + 128 * m, ?_, ?_, ?_, fun _ => by omega⟩
    ·
     rw [hn]
     have : (((d % 128 + 128 * m : Nat) : Int)) = (d : Int) % 128 + 128 * (m : Int) := by omega
     rw [this, Int.add_mul, Int.add_assoc, Int.mul_comm W 128, ← Int.mul_assoc, Int.mul_comm (m : Int) 128]
    ·
     rw [hk, henc, List.length_cons]; omega
    ·
     rw [henc]
     simp only [List.cons_append, List.length_cons, List.drop_succ_cons]
     rw [← hl]
   ·
    split at h
    ·
     cases h
    ·
     rename_i h5 h128 hbad
     simp only [Option.some.injEq, Prod.mk.injEq] at h
     obtain ⟨rfl, rfl⟩ := h
     obtain ⟨d, hd⟩ : ∃ d : Nat, c = (d : Int) := ⟨c.toNat, by omega⟩
     subst hd
     have hd128 : d < 128 := by omega
     have e : (d : Int) % 128 = (d : Int) := by omega
     refine ⟨d, by rw [e], by rw [Plain.enc_small hd128]; rfl, by rw [Plain.enc_small hd128]; simp, fun hk => ?_⟩
     rw [not_or] at hbad
     rw [e] at hbad
     omega
theorem num_enc {n : Int} {m : Nat} (h : n = (m : Int)) (hm : n ≤ 1000000000) : Puts.num n = Plain.enc m := by
 rw [Plain.num_eq, h, Plain.clamp_size (by omega)]
 simp
theorem dec_bd : ∀ (l : List Int) (k : Nat) (N W n : Int) (k' : Nat), Plain.dec k N W l = some (n, k') → n ≤ 1000000000 := by
 intro l
 induction l with
 | nil => intro k N W n k' h; simp [Plain.dec] at h
 | cons c r ih =>
  intro k N W n k' h
  rw [Plain.dec] at h
  split at h
  ·
   cases h
  ·
   split at h
   ·
    exact ih _ _ _ _ _ h
   ·
    split at h
    ·
     cases h
    ·
     rename_i hbad
     simp only [Option.some.injEq, Prod.mk.injEq] at h
     rw [not_or] at hbad
     omega
theorem getNum_canon {xs : List Int} {a : Nat} {n p : Int} (hb : Byt xs) (h : Plain.getNum xs (a : Int) = (n, p, true)) : ∃ q : Nat, p = (q : Int) ∧ 0 ≤ n ∧ n ≤ 1000000000 ∧ a ≤ xs.length ∧ xs.drop a = Puts.num n ++ xs.drop q := by
 unfold Plain.getNum at h
 split at h
 ·
  rename_i hc
  rw [show ((a : Int)).toNat = a from rfl] at h
  split at h
  ·
   rename_i n' k hd
   simp only [Prod.mk.injEq, and_true] at h
   obtain ⟨rfl, rfl⟩ := h
   obtain ⟨m, hn, hk, hl, _⟩ := dec_canon _ _ _ _ _ _ hd (fun x hx => hb x (List.mem_of_mem_drop hx))
   have h9 := dec_bd _ _ _ _ _ _ hd
   have hn' : n' = (m : Int) := by omega
   refine ⟨a + k, by omega, by omega, h9, by omega, ?_⟩
   rw [num_enc hn' h9]
   have hk' : k = (Plain.enc m).length := by omega
   rw [← List.drop_drop, hk']
   exact hl
  ·
   simp at h
 ·
  simp at h
theorem getText_canon {xs : List Int} {a : Nat} {s : ByteArray} {p : Int} (hb : Byt xs) (h : Plain.getText xs (a : Int) = (s, p, true)) : ∃ q : Nat, p = (q : Int) ∧ s.size ≤ 1000000000 ∧ xs.drop a = Puts.tx s ++ xs.drop q := by
 unfold Plain.getText at h
 split at h
 ·
  rename_i hc
  obtain ⟨n, q, ok, hg⟩ : ∃ n q ok, Plain.getNum xs (a : Int) = (n, q, ok) := ⟨_, _, _, rfl⟩
  rw [hg] at h hc
  simp only at h hc
  obtain ⟨rfl, hc2⟩ := hc
  simp only [Prod.mk.injEq, and_true] at h
  obtain ⟨rfl, rfl⟩ := h
  obtain ⟨q', rfl, hn0, hn9, _, hd⟩ := getNum_canon hb hg
  obtain ⟨m, rfl⟩ : ∃ m : Nat, n = (m : Int) := ⟨n.toNat, by omega⟩
  have hsz : (Plain.txt ((xs.drop ((q' : Int)).toNat).take ((m : Int)).toNat)).size = m := by
   rw [txt_size]
   simp
   omega
  have hsb : sb (Plain.txt ((xs.drop ((q' : Int)).toNat).take ((m : Int)).toNat)) = (xs.drop q').take m := by
   rw [sb_txt (fun x hx => hb x (List.mem_of_mem_drop (List.mem_of_mem_take hx)))]
   rfl
  refine ⟨q' + m, by omega, by omega, ?_⟩
  unfold Puts.tx
  rw [hsz, hsb, hd, List.append_assoc, ← List.drop_drop, List.take_append_drop]
 ·
  simp at h
theorem rd_canon {xs : List Int} (hb : Byt xs) : ∀ (n a : Nat) (l : List ByteArray) (p : Int), Plain.rd xs n (a : Int) = some (l, p) → ∃ q : Nat, p = (q : Int) ∧ l.length = n ∧ xs.drop a = Puts.txs l ++ xs.drop q := by
 intro n
 induction n with
 | zero =>
  intro a l p h
  simp [Plain.rd] at h
  obtain ⟨rfl, rfl⟩ := h
  exact ⟨a, rfl, rfl, rfl⟩
 | succ n ih =>
  intro a l p h
  rw [Plain.rd] at h
  split at h
  ·
   rename_i hok
   obtain ⟨s, q, ok, hg⟩ : ∃ s q ok, Plain.getText xs (a : Int) = (s, q, ok) := ⟨_, _, _, rfl⟩
   rw [hg] at h hok
   simp only at h hok
   subst hok
   obtain ⟨q', rfl, _, hd⟩ := getText_canon hb hg
   rw [Option.map_eq_some_iff] at h
   obtain ⟨⟨l2, q2⟩, h1, h2⟩ := h
   simp only [Prod.mk.injEq] at h2
   obtain ⟨rfl, rfl⟩ := h2
   obtain ⟨q3, hq3, hl3, hd3⟩ := ih _ _ _ h1
   refine ⟨q3, hq3, by simp [hl3], ?_⟩
   rw [hd, hd3]
   simp [Puts.txs]
  ·
   cases h
theorem getTexts_canon {xs : List Int} {a : Nat} {l : List ByteArray} {p : Int} (hb : Byt xs) (h : Plain.getTexts xs (a : Int) = (l, p, true)) : ∃ q : Nat, p = (q : Int) ∧ xs.drop a = Puts.num (l.length : Int) ++ Puts.txs l ++ xs.drop q := by
 unfold Plain.getTexts at h
 split at h
 ·
  rename_i hc
  obtain ⟨n, q, ok, hg⟩ : ∃ n q ok, Plain.getNum xs (a : Int) = (n, q, ok) := ⟨_, _, _, rfl⟩
  rw [hg] at h hc
  simp only at h hc
  obtain ⟨rfl, hc2⟩ := hc
  obtain ⟨q', rfl, hn0, hn9, _, hd⟩ := getNum_canon hb hg
  obtain ⟨m, rfl⟩ : ∃ m : Nat, n = (m : Int) := ⟨n.toNat, by omega⟩
  split at h
  ·
   rename_i l' q2 hr
   simp only [Prod.mk.injEq, and_true] at h
   obtain ⟨rfl, rfl⟩ := h
   obtain ⟨q3, hq3, hl3, hd3⟩ := rd_canon hb _ _ _ _ hr
   refine ⟨q3, hq3, ?_⟩
   have : l'.length = m := by rw [hl3]; rfl
   rw [hd, hd3, this, List.append_assoc]
  ·
   simp at h
 ·
  simp at h
end Go.Proofs.YtchonoonclllbaaGreatDoor.Can

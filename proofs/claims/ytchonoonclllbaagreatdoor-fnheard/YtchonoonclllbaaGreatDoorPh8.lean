/- Texts in one: Sha4, Sha5, Puts. -/
import Derived.Test.YtchonoonclllbaaGreatDoorPh7
import Derived.Laws.CopyOwn
set_option maxHeartbeats 16000000
set_option linter.unusedVariables false
set_option linter.unusedSimpArgs false
namespace Go.Proofs.YtchonoonclllbaaGreatDoor.Sha
open Go.RowKit Mem Laws Bytes
def KC : List Nat := [1116352408, 1899447441, 3049323471, 3921009573, 961987163, 1508970993, 2453635748, 2870763221, 3624381080, 310598401, 607225278, 1426881987, 1925078388, 2162078206, 2614888103, 3248222580, 3835390401, 4022224774, 264347078, 604807628, 770255983, 1249150122, 1555081692, 1996064986, 2554220882, 2821834349, 2952996808, 3210313671, 3336571891, 3584528711, 113926993, 338241895, 666307205, 773529912, 1294757372, 1396182291, 1695183700, 1986661051, 2177026350, 2456956037, 2730485921, 2820302411, 3259730800, 3345764771, 3516065817, 3600352804, 4094571909, 275423344, 430227734, 506948616, 659060556, 883997877, 958139571, 1322822218, 1537002063, 1747873779, 1955562222, 2024104815, 2227730452, 2361852424, 2428436474, 2756734187, 3204031479, 3329325298]
def H0 : List Nat := [1779033703, 3144134277, 1013904242, 2773480762, 1359893119, 2600822924, 528734635, 1541459225]
theorem KC_len : KC.length = 64 := rfl
theorem KC_lt : ∀ x ∈ KC, x < 4294967296 := by decide
theorem H0_lt : ∀ x ∈ H0, x < 4294967296 := by decide
def dblocks : Nat → List Nat → List Int → List Nat
 | 0, H, _ => H
 | n + 1, H, ys => dblocks n (blk H (ys.take 64) KC) (ys.drop 64)
def be4 (x : Nat) : List Int := [((x / 16777216 % 256 : Nat) : Int), ((x / 65536 % 256 : Nat) : Int), ((x / 256 % 256 : Nat) : Int), ((x % 256 : Nat) : Int)]
def digest (xs : List Int) : List Int := (dblocks ((padded xs).length / 64) H0 (padded xs)).flatMap be4
theorem padded_len (xs : List Int) : (padded xs).length % 64 = 0 := by
 unfold padded zc
 simp [be8]
 omega
theorem padded_le (xs : List Int) : (padded xs).length ≤ xs.length + 73 := by
 unfold padded zc
 simp [be8]
 omega
theorem be8_byt (n : Nat) : Byt (be8 n) := by
 intro x hx
 simp only [be8, List.mem_cons, List.not_mem_nil, or_false] at hx
 omega
theorem padded_byt {xs : List Int} (h : Byt xs) : Byt (padded xs) := by
 unfold padded
 refine ((h.app ?_).app ?_).app (be8_byt _)
 ·intro x hx; rw [List.mem_singleton] at hx; omega
 ·intro x hx; have := List.eq_of_mem_replicate hx; omega
theorem lit_own (w : World) (lo : Nat) (cs : Array Value) (n : Nat) (L : List Nat) (hn : cs.toList = ns L) (hl : L.length = n) (h : lo ≤ w.heap.size) (hm : n ≤ 1000) : Own (w.alloc (.cells cs 3)) lo (w.alloc (.cells cs 3)).heap.size 3 (.slice (some ⟨w.heap.size, 0, none⟩) n n) (ns L) := by
 have hs : cs.size = n * 1 := by have := congrArg List.length hn; rw [ns_len, hl, Array.length_toList] at this; omega
 have := Own.of (World.ownsRow_lit (e := 3) (base := lo) (size := 1) w cs n h (by unfold maxLen; omega) hs)
 rw [hn] at this
 exact this
set_option maxRecDepth 1000000 in
theorem k_spec (w : World) : Calls Tryz.prog 168 #[] w fun e w' => ∃ v', e = .returned v' ∧ Own w' w.heap.size w'.heap.size 3 v' (ns KC) ∧ Below w.heap.size w w' := by
 go_enter Tryz.func168, Tryz.ntmps168
 go_wp2
 go_ret
 exact ⟨_, rfl, lit_own w _ _ 64 KC rfl rfl (Nat.le_refl _) (by omega), (Below.refl _ _).alloc (Nat.le_refl _) _⟩
theorem flat4 (l : List Nat) : (l.flatMap be4).length = 4 * l.length := by
 induction l with
 | nil => rfl
 | cons x r ih => rw [List.flatMap_cons, List.length_append, ih, List.length_cons]; simp [be4]; omega
theorem be4_byt (x : Nat) : Byt (be4 x) := by
 intro y hy
 simp only [be4, List.mem_cons, List.not_mem_nil, or_false] at hy
 omega
theorem flat_byt (l : List Nat) : Byt (l.flatMap be4) := by
 intro y hy
 obtain ⟨x, _, hx⟩ := List.mem_flatMap.1 hy
 exact be4_byt x y hx
theorem Sl.four (w : World) (a b c d : Int) (t : TypeId) : Sl ((w.alloc (.cells #[.int .u8 a, .int .u8 b, .int .u8 c, .int .u8 d] t)).drew) (.slice (some ⟨w.heap.size, 0, none⟩) 4 4) (bs [a, b, c, d]) := by
 refine ⟨some ⟨w.heap.size, 0, none⟩, 4, rfl, by simp [bs], fun h => (by cases h), fun _ => ⟨w.heap.size, 0, rfl, fun j hj => ?_⟩⟩
 show (w.alloc _).cell? _ = _
 rw [cell_of_row _ w.heap.size (0 + j) #[.int .u8 a, .int .u8 b, .int .u8 c, .int .u8 d] t (0, 0) (heap_alloc_new w _)]
 have h2 : j = 0 ∨ j = 1 ∨ j = 2 ∨ j = 3 := by simp [bs] at hj; omega
 rcases h2 with rfl | rfl | rfl | rfl <;> simp [bs]
theorem len8 {L : List Nat} (h : L.length = 8) : ∃ a b c d e f q r, L = [a, b, c, d, e, f, q, r] := by
 match L, h with
 | [a, b, c, d, e, f, q, r], _ => exact ⟨a, b, c, d, e, f, q, r, rfl⟩
theorem rnds_len (K : List Nat) : ∀ (X v : List Nat), v.length = 8 → (rnds K X v).length = 8 := by
 induction K with
 | nil => intro X v h; rw [rnds]; exact h; intro k ks x xs a b c d e f g h h1; cases h1
 | cons k ks ih =>
  intro X v h
  cases X with
  | nil => rw [rnds]; exact h; intro k ks x xs a b c d e f g h h1 h2; cases h2
  | cons x xs =>
   obtain ⟨a, b, c, d, e, f, q, r, rfl⟩ := len8 h
   rw [rnds]
   exact ih xs _ rfl
theorem blk_len (a b c d e f q h : Nat) (ys : List Int) (K : List Nat) : (blk [a, b, c, d, e, f, q, h] ys K).length = 8 := by
 unfold blk
 rw [List.length_zipWith, rnds_len K _ _ rfl]
 rfl
theorem blk_lt (H : List Nat) (ys : List Int) (K : List Nat) : ∀ x ∈ blk H ys K, x < 4294967296 := by
 intro x hx
 unfold blk at hx
 obtain ⟨j, hj, rfl⟩ := List.getElem_of_mem hx
 rw [List.getElem_zipWith]
 exact Nat.mod_lt _ (by decide)
set_option maxRecDepth 1000000 in
theorem digest_spec (w : World) (v : Value) (xs : List Int) (h : Sl w v (bs xs)) (hby : Byt xs) (hx : xs.length ≤ 1000000000000) :
  Calls Tryz.prog 128 #[v] w fun e w' => e = .returned (.string (Plain.txt (digest xs))) ∧ Below w.heap.size w w' := by
 obtain ⟨i0, hi, hz0, hz1, hz2⟩ := info_parts info5
 go_enter Tryz.func128, Tryz.ntmps128
 go_wp2_with fail
 refine (padded_spec w v xs h hx).mono ?_
 rintro e w1 ⟨vp, rfl, op1, b1⟩
 have s1 := b1.size
 obtain ⟨P, hP⟩ : ∃ P, P = padded xs := ⟨_, rfl⟩
 have hPl := padded_len xs
 have hPm := padded_le xs
 have hPb := padded_byt hby
 rw [← hP] at op1 hPl hPm hPb
 have HP : Hid (P = padded xs) := hP
 have hPpos : 0 < P.length := by rw [hP]; simp only [padded, List.length_append, List.length_cons, List.length_nil]; omega
 clear hP
 have oh0 : ∀ cs : Array Value, cs.toList = ns H0 → Own (w1.alloc (.cells cs 3)) w1.heap.size (w1.alloc (.cells cs 3)).heap.size 3 (.slice (some ⟨w1.heap.size, 0, none⟩) 8 8) (ns H0) := fun cs hcs => lit_own w1 _ cs 8 H0 hcs rfl (Nat.le_refl _) (by omega)
 have ohl := oh0 _ (show (#[.int .i64 1779033703, .int .i64 3144134277, .int .i64 1013904242, .int .i64 2773480762, .int .i64 1359893119, .int .i64 2600822924, .int .i64 528734635, .int .i64 1541459225] : Array Value).toList = ns H0 from rfl)
 have op2 := op1.later ((Below.refl w1.heap.size w1).alloc (Nat.le_refl _) (.cells #[.int .i64 1779033703, .int .i64 3144134277, .int .i64 1013904242, .int .i64 2773480762, .int .i64 1359893119, .int .i64 2600822924, .int .i64 528734635, .int .i64 1541459225] 3)) (Nat.le_refl _)
 go_wp2_with fail
 refine (k_spec _).mono ?_
 rintro e w3 ⟨vk, rfl, ok3, b3⟩
 have oh3 := ohl.later b3 (Nat.le_refl _)
 have op3 := op2.later b3 (by simp)
 have s3 := b3.size
 have s13 : w1.heap.size < w3.heap.size := by have := s3; simp at this; omega
 have hB3 : Below w.heap.size w w3 := (b1.alloc s1 _).trans (b3.mono (by simp; omega))
 obtain ⟨gk, capk, rfl, hgk1, hgk2, hcapk, hck⟩ := Own.form ok3 (by rw [ns_len, KC_len]; omega)
 obtain ⟨gp, capp, rfl, hgp1, hgp2, hcapp, hcp⟩ := Own.form op3 (by rw [bs_len]; omega)
 rw [ns_len, KC_len] at hcapk
 rw [bs_len] at hcapp
 rw [ns_len, KC_len, bs_len]
 clear ohl op2 op1 oh0 ok3 op3
 go_wp2
 go_loopw [4, 6] (fun vh i wr => ∃ (t a b c d e f q h : Nat), 64 * t ≤ P.length ∧ i = .int .i64 (64 * (t : Int)) ∧ (∀ x ∈ [a, b, c, d, e, f, q, h], x < 4294967296) ∧ dblocks (P.length / 64 - t) [a, b, c, d, e, f, q, h] (P.drop (64 * t)) = dblocks (P.length / 64) H0 P ∧ Own wr w1.heap.size wr.heap.size 3 vh (ns [a, b, c, d, e, f, q, h]) ∧ Below w3.heap.size w3 wr) (fun _ i _ => P.length + 64 - (intOf i).toNat)
 case atStart => exact ⟨0, _, _, _, _, _, _, _, _, by omega, rfl, H0_lt, rfl, oh3.mono (Nat.le_refl _) s3, Below.refl _ _⟩
 case round =>
  obtain ⟨t, a, b, c, d, e, f, q, h, ht, rfl, hb8, hE0, ho, hb⟩ := hrel
  have HE : Hid (dblocks (P.length / 64 - t) [a, b, c, d, e, f, q, h] (P.drop (64 * t)) = dblocks (P.length / 64) H0 P) := hE0
  have hsz := hb.size
  have hBw : Below w.heap.size w wr := hB3.trans (hb.mono (by omega))
  clear hE0 oh3
  by_cases hlt : 64 * t < P.length
  ·obtain ⟨g, capv, rfl, hg1, hg2, hcapv, hcv⟩ := Own.form ho (by simp [ns])
   have hcapv8 : 8 ≤ capv := by simpa [ns] using hcapv
   have hlen8 : (ns [a, b, c, d, e, f, q, h]).length = 8 := by simp [ns]
   rw [hlen8]
   have h64 : 64 * t + 64 ≤ P.length := by omega
   have hyl : ((P.drop (64 * t)).take 64).length = 64 := by simp; omega
   have hyb : Byt ((P.drop (64 * t)).take 64) := fun x hx => hPb x (List.mem_of_mem_drop (List.mem_of_mem_take hx))
   have hyc : ∀ j, j < ((P.drop (64 * t)).take 64).length → wr.cell? ⟨gp, 64 * t + j, none⟩ = (bs ((P.drop (64 * t)).take 64))[j]? := by
    intro j hj
    rw [hyl] at hj
    rw [hb.cell (p := ⟨gp, 64 * t + j, none⟩) (show gp < w3.heap.size by omega), hcp (64 * t + j) (by rw [bs_len]; omega), bs_get, bs_get, List.getElem?_take, if_pos hj, List.getElem?_drop]
   have hkc : ∀ j, j < (ns KC).length → wr.cell? ⟨gk, 0 + j, none⟩ = (ns KC)[j]? := by
    intro j hj
    rw [Nat.zero_add, hb.cell (p := ⟨gk, j, none⟩) (show gk < w3.heap.size by omega)]; exact hck j hj
   have hhc : ∀ j, j < (ns [a, b, c, d, e, f, q, h]).length → wr.cell? ⟨g, 0 + j, none⟩ = (ns [a, b, c, d, e, f, q, h])[j]? := by
    intro j hj
    rw [Nat.zero_add]; exact hcv j hj
   have hblk := block_spec wr g 0 capv gp (64 * t) (capp - 64 * t) gk 0 capk a b c d e f q h _ KC hb8 hhc hcapv8 hyl (by omega) hyb hyc KC_len KC_lt hkc (by omega)
   have HN : Hid (dblocks (P.length / 64 - (t + 1)) (blk [a, b, c, d, e, f, q, h] ((P.drop (64 * t)).take 64) KC) (P.drop (64 * (t + 1))) = dblocks (P.length / 64) H0 P) := by
    have h1 := HE.out
    rw [show P.length / 64 - t = (P.length / 64 - (t + 1)) + 1 by omega, dblocks, List.drop_drop] at h1
    rw [show 64 * (t + 1) = 64 * t + 64 by omega]
    exact h1
   clear hyl hyb hyc hkc hhc hcv hcapv hlen8 HE
   obtain ⟨a', b', c', d', e', f', q', h', hL⟩ := len8 (blk_len a b c d e f q h ((P.drop (64 * t)).take 64) KC)
   have hLb := blk_lt [a, b, c, d, e, f, q, h] ((P.drop (64 * t)).take 64) KC
   rw [hL] at hblk HN hLb
   clear hL hb8 ho
   go_wp2_with fail
   refine hblk.mono ?_
   rintro e w5 ⟨v5, rfl, o5, b5⟩
   have hb5 : Below w3.heap.size w3 w5 := hb.trans (b5.mono hsz)
   have o5' := o5.mono (show w1.heap.size ≤ wr.heap.size by omega) (Nat.le_refl _)
   clear hblk
   go_wp2
   go_roundw
   case rel => exact ⟨t + 1, a', b', c', d', e', f', q', h', by omega, by go_num, hLb, HN.out, o5', hb5⟩
   case measure => simp [intOf]; omega
  ·have hend : P.length / 64 - t = 0 := by omega
   have HF : Hid ([a, b, c, d, e, f, q, h].flatMap be4 = digest xs) := by
    have h1 := HE.out
    rw [hend, dblocks] at h1
    show _ = _
    rw [h1, HP.out]
    rfl
   obtain ⟨Z, hZ⟩ : ∃ Z, Z = [a, b, c, d, e, f, q, h] := ⟨_, rfl⟩
   have hZl : Z.length = 8 := by rw [hZ]; rfl
   rw [← hZ] at HF hb8 ho
   obtain ⟨g, capv, rfl, hg1, hg2, hcapv, hcv⟩ := Own.form ho (by rw [ns_len, hZl]; omega)
   rw [ns_len, hZl] at hcapv
   rw [ns_len, hZl]
   obtain ⟨wz, hwz⟩ : ∃ z, z = wr := ⟨_, rfl⟩
   subst hwz
   have oe := Own.emptyB wz wz.heap.size (Nat.le_refl _)
   have be : Below wz.heap.size wz (wz.alloc (.cells #[] 5)) := (Below.refl _ _).alloc (Nat.le_refl _) _
   clear hZ HE ho hend
   go_wp2
   go_loopw [7, 8] (fun o i w' => ∃ m : Nat, m ≤ 8 ∧ i = .int .i64 (m : Int) ∧ Own w' wz.heap.size w'.heap.size 5 o (bs ((Z.take m).flatMap be4)) ∧ Below wz.heap.size wz w') (fun _ i _ => 8 - (intOf i).toNat)
   case atStart => exact ⟨0, by omega, rfl, oe, be⟩
   case round =>
    obtain ⟨m, hm, rfl, ho9, hb9⟩ := hrel
    have hs9 := hb9.size
    clear oe be
    by_cases hlt9 : m < 8
    ·have kz : wr.cell? ⟨g, m, none⟩ = some (.int .i64 ((Z.getD m 0 : Nat) : Int)) := by
      rw [hb9.cell (p := ⟨g, m, none⟩) hg2]; exact ns_cell hcv m (by omega)
     have lz : Z.getD m 0 < 4294967296 := getD_lt hb8 m
     have HT : Hid ((Z.take (m + 1)).flatMap be4 = (Z.take m).flatMap be4 ++ be4 (Z.getD m 0)) := by
      show _ = _
      rw [List.take_succ_eq_append_getElem (by omega), List.flatMap_append]
      simp [List.getD, hZl, hlt9]
     obtain ⟨zm, ezm⟩ : ∃ z, Z.getD m 0 = z := ⟨_, rfl⟩
     rw [ezm] at kz lz HT
     have hl : (bs ((Z.take m).flatMap be4)).length ≤ 1000 := by rw [bs_len, flat4]; simp; omega
     have c2 : ∀ a b c d : Int, (bs ((Z.take m).flatMap be4)).length + (bs [a, b, c, d]).length ≤ maxLen := fun a b c d => by simp only [bs_len, List.length_cons, List.length_nil] at *; unfold maxLen; omega
     have c3 : ∀ a b c d : Int, ((bs ((Z.take m).flatMap be4)).length + (bs [a, b, c, d]).length) * 1 ≤ 140737488355328 := fun a b c d => by simp only [bs_len, List.length_cons, List.length_nil] at *; omega
     have c4 : ∀ o, wz.heap.size ≤ ((wr.alloc o).drew).heap.size := fun o => by simp; omega
     have ho' : ∀ o, Own ((wr.alloc o).drew) wz.heap.size ((wr.alloc o).drew).heap.size 5 _ (bs ((Z.take m).flatMap be4)) := fun o => Own.alloc ho9 o
     have z0 : (0 : Int) ≤ (m : Int) := by omega
     have z1 : (m : Int) < 8 := by omega
     have nn := World.new_ne wr ⟨g, m, none⟩ kz
     clear ezm hl hcv
     go_wp2
     go_region_held3 (fun w' => w'.cell? ⟨g, m, none⟩ = some (.int .i64 (zm : Int))) (first | go_keep | (rw [hb10.cell (by exact hg2)]; assumption))
      ((refine step_app (by rfl) (.tmp 32) (.tmp 56) 22 (by rfl) 5 i0 (.int .u8 0) 1 Tryz.underlying22 hi hz0 hz1 hz2 rfl wz.heap.size _ _ (by rfl) (ho' _) _ (by rfl) _ (Sl.four wr _ _ _ _ _) (bs_one _) (c2 _ _ _ _) (c3 _ _ _ _) (c4 _) ?_; intro v10 w10 ho10 hb10))
     have E4 : [IntKind.u8.wrap ((zm : Int) / 16777216), IntKind.u8.wrap ((zm : Int) / 65536), IntKind.u8.wrap ((zm : Int) / 256), IntKind.u8.wrap (zm : Int)] = be4 zm := by
      simp only [IntKind.wrap_u8, be4]
      congr 1 <;> simp
     rw [E4, ← bs_app, ← HT.out] at ho10
     have hb11 : Below wz.heap.size wz w10 := (Below.drew (hb9.alloc hs9 _)).trans hb10
     clear E4 c2 c3 c4 ho' hb10 nn kz
     go_wp2
     go_roundw
     case rel => exact ⟨m + 1, by omega, by go_num, ho10, hb11⟩
     case measure => simp [intOf]; omega
    ·rw [List.take_of_length_le (by omega), HF.out] at ho9
     have hconv := conv_sl ho9.sl (by rw [← HF.out]; exact flat_byt Z)
     go_wp2
     go_ret
     exact ⟨rfl, hBw.trans (hb9.mono (by omega))⟩
end Go.Proofs.YtchonoonclllbaaGreatDoor.Sha
namespace Go.Proofs.YtchonoonclllbaaGreatDoor.Sha
open Mem Laws
theorem blk_len8 {H : List Nat} (h : H.length = 8) (ys : List Int) (K : List Nat) : (blk H ys K).length = 8 := by
 obtain ⟨a, b, c, d, e, f, q, r, rfl⟩ := len8 h
 exact blk_len a b c d e f q r ys K
theorem dblocks_len (n : Nat) : ∀ (H : List Nat) (ys : List Int), H.length = 8 → (dblocks n H ys).length = 8 := by
 induction n with
 | zero => intro H ys h; exact h
 | succ n ih => intro H ys h; rw [dblocks]; exact ih _ _ (blk_len8 h _ _)
theorem digest_len (xs : List Int) : (digest xs).length = 32 := by
 unfold digest
 rw [flat4, dblocks_len _ _ _ rfl]
theorem digest_byt (xs : List Int) : Byt (digest xs) := flat_byt _
theorem txt_size (l : List Int) : (Plain.txt l).size = l.length := by
 show (Plain.txt l).data.size = _
 simp [Plain.txt, Plain.u8s]
theorem sb_txt {l : List Int} (h : Byt l) : sb (Plain.txt l) = l := by
 unfold sb Plain.txt Plain.u8s
 simp only [List.map_map]
 have e : ∀ x ∈ l, ((fun b : UInt8 => (b.toNat : Int)) ∘ fun x : Int => UInt8.ofNat x.toNat) x = x := fun x hx => Plain.u8_back (h x hx)
 rw [List.map_congr_left e]
 simp
end Go.Proofs.YtchonoonclllbaaGreatDoor.Sha
namespace Go.Proofs.YtchonoonclllbaaGreatDoor.Puts
open Go.RowKit Mem Plain Laws Bytes
def num (n : Int) : List Int := enc (clampN n).toNat
theorem num_byt (n : Int) : Byt (num n) := enc_byte _
theorem num_len (n : Int) : 1 ≤ (num n).length ∧ (num n).length ≤ 5 := ⟨enc_len _, enc_len5 _ (by have := clampN_bd n; omega)⟩
theorem near_any (n : Int) (w : World) : Calls Tryz.prog 178 #[.int .i64 n] w fun e w' => e = .returned (.int .i64 (clampN n)) ∧ w = w' := by
 by_cases h0 : n < 0
 ·have HC : Hid (clampN n = 0) := by show clampN n = 0; unfold clampN; rw [if_pos h0]
  go_enter Tryz.func178, Tryz.ntmps178
  go_wp2
  go_ret
  exact ⟨by rw [HC.out]; rfl, rfl⟩
 ·by_cases h1 : 1000000000 < n
  ·have HC : Hid (clampN n = 1000000000) := by show clampN n = _; unfold clampN; rw [if_neg h0, if_pos h1]
   go_enter Tryz.func178, Tryz.ntmps178
   go_wp2
   go_ret
   exact ⟨by rw [HC.out]; rfl, rfl⟩
  ·have HC : Hid (clampN n = n) := by show clampN n = _; unfold clampN; rw [if_neg h0, if_neg h1]
   go_enter Tryz.func178, Tryz.ntmps178
   go_wp2
   go_ret
   exact ⟨by rw [HC.out]; rfl, rfl⟩
theorem own_any (w : World) (v : Value) (xs : List Int) (h : Sl w v (bs xs)) (hx : xs.length ≤ 140737488355328) :
  Calls Tryz.prog 103 #[v] w fun e w' => ∃ v', e = .returned v' ∧ Own w' w.heap.size w'.heap.size 5 v' (bs xs) ∧ Below w.heap.size w w' := by
 obtain ⟨i0, hi, hz0, hz1, hz2⟩ := info_parts info5
 have hlater : ∀ w', Below w.heap.size w w' → Sl w' v (bs xs) := fun w' hb => h.later hb
 obtain ⟨ao, cap, rfl, hc, _, hr⟩ := h
 rw [bs_len] at hr hc hlater
 rw [bs_len]
 go_enter Tryz.func103, Tryz.ntmps103
 go_wp2_with (first | (at_make; refine wpList_make_full _ rfl _ _ 22 rfl w.heap.size 5 i0 (.int .u8 0) 1 Tryz.underlying22 hi hz0 hz1 _ _ _ _ xs.length rfl rfl rfl rfl (by rw [hz2]; omega) (by unfold maxLen; omega) (Nat.le_refl _) ?_))
 intro w1 hown hgrow
 have hbel : Below w.heap.size w w1 := (Below.refl _ _).grown hgrow (Nat.le_refl _) (by simp)
 obtain ⟨L, hown'⟩ : ∃ L, w1.ownsRow w.heap.size 5 1 (.slice (some ⟨w.heap.size, 0, none⟩) xs.length xs.length) xs.length L := ⟨_, hown⟩
 have hblk : w1.heap[w.heap.size]? = some (.cells L.toArray 5 (0, 0)) := full_block hown'
 have hLn : L.length = xs.length := by have := hown'.1; omega
 have HLn : Hid (L.length = xs.length) := hLn
 obtain ⟨C, hC⟩ : ∃ C, C = bs xs := ⟨_, rfl⟩
 have HC : Hid (C = bs xs ∧ C.length = xs.length) := ⟨hC, by rw [hC, bs_len]⟩
 have hsz : (Tryz.prog.info? 5).map (·.size) = some 1 := by rw [hi]; simp [hz1]
 obtain ⟨ao', cap', he, _, _, hr'⟩ := hlater w1 hbel
 rw [bs_len] at he hr'
 simp only [Value.slice.injEq] at he
 obtain ⟨rfl, _, rfl⟩ := he
 have HS : Hid (0 < C.length → ∃ ad, ao = some ad ∧ ∀ j u, C[j]? = some u → w1.cell? (ad.add j) = some u) := by
  intro hp
  rw [HC.out.2] at hp
  obtain ⟨b, off, rfl, hcell⟩ := hr' hp
  refine ⟨_, rfl, fun j u hj => ?_⟩
  rw [Addr.add_lit, hcell j (by have := (List.getElem?_eq_some_iff.1 hj).1; rw [HC.out.2] at this; exact this), ← HC.out.1]
  exact hj
 have HO : Hid (∀ u ∈ C, u.oneCell' = true) := by show ∀ u ∈ C, u.oneCell' = true; rw [hC]; exact bs_one _
 clear hown hown' hgrow hLn hC hr hr'
 go_wp2_with (refine wpList_copy_splice rfl (.tmp 7) (.tmp 8) 22 22 rfl 5 Tryz.underlying22 hsz _ _ _ _ _ _ rfl rfl w.heap.size 0 L 5 hblk C (HC.out.2.trans (Nat.min_self _).symm) (fun hp => ⟨rfl, HS.out hp⟩) (by rw [HC.out.2, HLn.out]; omega) HO.out w.heap.size w hbel (Nat.le_refl _) ?_)
 intro w2 hg2 hb2
 go_wp2
 go_ret
 have hfin := hg2.out
 rw [splice_all (by rw [HLn.out, HC.out.2])] at hfin
 refine ⟨_, rfl, ?_, hb2⟩
 rw [← HC.out.1]
 exact Own.of (full_own hfin (Nat.le_refl _) HC.out.2 (by unfold maxLen; omega))
theorem one_byte (x : Int) : ∀ u ∈ [Value.int .u8 x], u.oneCell' = true := by
 intro u hu
 rw [List.mem_singleton] at hu
 rw [hu]
 rfl
set_option maxRecDepth 1000000 in
theorem nums_one (w : World) (lo : Nat) (v : Value) (xs : List Int) (g : Nat) (n : Int) (h : Own w lo w.heap.size 5 v (bs xs)) (hlo : lo ≤ w.heap.size) (hx : xs.length ≤ 70368744177664)
  (hcell : w.cell? ⟨g, 0, none⟩ = some (.int .i64 n)) :
  Calls Tryz.prog 145 #[v, .slice (some ⟨g, 0, none⟩) 1 1] w fun e w' => ∃ v', e = .returned v' ∧ Own w' lo w'.heap.size 5 v' (bs (xs ++ num n)) ∧ Below lo w w' := by
 obtain ⟨i0, hi, hz0, hz1, hz2⟩ := info_parts info5
 go_enter Tryz.func145, Tryz.ntmps145
 go_wp2
 go_loopw [0, 9] (fun b i wr => (i = .int .i64 0 ∧ w = wr ∧ v = b) ∨ (i = .int .i64 1 ∧ Own wr lo wr.heap.size 5 b (bs (xs ++ num n)) ∧ Below lo w wr)) (fun _ i _ => 1 - (intOf i).toNat)
 case atStart => exact .inl ⟨rfl, rfl, rfl⟩
 case round =>
  rcases hrel with ⟨rfl, rfl, rfl⟩ | ⟨rfl, ho, hb⟩
  ·have hcb := clampN_bd n
   go_wp2_with (go_at_call 178; refine (near_any _ _).mono ?_; rintro e w' ⟨rfl, rfl⟩)
   obtain ⟨m0, hm0⟩ : ∃ m0 : Nat, clampN n = (m0 : Int) := ⟨(clampN n).toNat, by omega⟩
   have HM : Hid (num n = enc m0) := by show num n = enc m0; unfold num; rw [hm0]; rfl
   have hm0b : m0 ≤ 1000000000 := by omega
   have hnl := num_len n
   rw [hm0]
   clear hcb hcell hm0
   go_loopw [0, 6] (fun b nn wr => ∃ (m : Nat) (ys : List Int), m ≤ 1000000000 ∧ nn = .int .i64 m ∧ ys ++ enc m = xs ++ num n ∧ Own wr lo wr.heap.size 5 b (bs ys) ∧ Below lo w wr) (fun _ nn _ => (intOf nn).toNat)
   case atStart => exact ⟨m0, xs, hm0b, rfl, by rw [HM.out], h, Below.refl _ _⟩
   case round =>
    obtain ⟨m, ys, hm, rfl, hE0, ho, hb⟩ := hrel
    have HE : Hid (ys ++ enc m = xs ++ num n) := hE0
    have hyl : ys.length ≤ xs.length + 5 := by have := congrArg List.length hE0; simp at this; omega
    have hsz := hb.size
    clear hE0 HM
    by_cases hlt : 128 ≤ m
    ·have HS : Hid ((ys ++ [((m % 128 + 128 : Nat) : Int)]) ++ enc (m / 128) = xs ++ num n) := by
      show _ = _; rw [← HE.out, enc_step (show ¬ m < 128 by omega), List.append_assoc]; rfl
     have c2 : (bs ys).length + 1 ≤ maxLen := by rw [bs_len]; unfold maxLen; omega
     have c3 : ((bs ys).length + 1) * 1 ≤ 140737488355328 := by rw [bs_len]; omega
     have c4 : ∀ o, lo ≤ (wr.alloc o).heap.size := fun o => by simp; omega
     go_wp2_with (at_builtin; go_must (refine wpl_app _ rfl (.tmp 17) (.tmp 22) 22 rfl 5 i0 (.int .u8 0) 1 Tryz.underlying22 hi hz0 hz1 hz2 rfl lo _ (bs ys) rfl (ho.alloc _) _ rfl [.int .u8 ((m : Int) % 128 + 128)] (Sl.one _ _ _) (one_byte _) c2 c3 (c4 _) ?_); intro v1 w1 ho1 hb1 hg1)
     have hb2 : Below lo w w1 := (hb.alloc (by omega) _).trans hb1
     have ho2 : Own w1 lo w1.heap.size 5 v1 (bs (ys ++ [((m % 128 + 128 : Nat) : Int)])) := by rw [bs_app]; exact ho1
     go_roundw
     case rel => exact ⟨m / 128, ys ++ [((m % 128 + 128 : Nat) : Int)], by omega, by go_num, HS.out, ho2, hb2⟩
     case measure => simp [intOf]; omega
    ·have c2 : (bs ys).length + 1 ≤ maxLen := by rw [bs_len]; unfold maxLen; omega
     have c3 : ((bs ys).length + 1) * 1 ≤ 140737488355328 := by rw [bs_len]; omega
     have c4 : ∀ o, lo ≤ (wr.alloc o).heap.size := fun o => by simp; omega
     have HS : Hid (ys ++ [(m : Int)] = xs ++ num n) := by show _ = _; rw [← HE.out, enc_small (show m < 128 by omega)]
     go_wp2_with (at_builtin; go_must (refine wpl_app _ rfl (.tmp 26) (.tmp 29) 22 rfl 5 i0 (.int .u8 0) 1 Tryz.underlying22 hi hz0 hz1 hz2 rfl lo _ (bs ys) rfl (ho.alloc _) _ rfl [.int .u8 (m : Int)] (Sl.one _ _ _) (one_byte _) c2 c3 (c4 _) ?_); intro v1 w1 ho1 hb1 hg1)
     have hb2 : Below lo w w1 := (hb.alloc (by omega) _).trans hb1
     have ho2 : Own w1 lo w1.heap.size 5 v1 (bs (xs ++ num n)) := by rw [← HS.out, bs_app]; exact ho1
     go_roundw
     case rel => exact .inr ⟨rfl, ho2, hb2⟩
     case measure => simp [intOf]
  ·go_wp2
   go_ret
   exact ⟨_, rfl, ho, hb⟩
theorem new_cell (w : World) (u : Value) (t : TypeId) : (w.alloc (.cells #[u] t)).cell? ⟨w.heap.size, 0, none⟩ = some u := by
 rw [cell_of_row _ w.heap.size 0 #[u] t (0, 0) (heap_alloc_new w _)]
 rfl
set_option maxRecDepth 1000000 in
theorem put_impl (w : World) (v : Value) (xs : List Int) (n : Int) (h : Sl w v (bs xs)) (hx : xs.length ≤ 70368744177664) :
  Calls Tryz.prog 146 #[v, .int .i64 n] w fun e w' => ∃ v', e = .returned v' ∧ Own w' w.heap.size w'.heap.size 5 v' (bs (xs ++ num n)) ∧ Below w.heap.size w w' := by
 go_enter Tryz.func146, Tryz.ntmps146
 go_wp2_with fail
 refine (own_any w v xs h (by omega)).mono ?_
 rintro e w1 ⟨v1, rfl, ho1, hb1⟩
 have hsz := hb1.size
 go_wp2_with fail
 refine (nums_one _ w.heap.size v1 xs w1.heap.size n (ho1.alloc _) (by simp; omega) hx (new_cell _ _ _)).mono ?_
 rintro e w2 ⟨v2, rfl, ho2, hb2⟩
 go_wp2
 go_ret
 exact ⟨_, rfl, ho2, (hb1.alloc (by omega) _).trans hb2⟩
theorem Own.empty (w : World) (lo : Nat) (h : lo ≤ w.heap.size) : Own (w.alloc (.cells #[] 5)) lo (w.alloc (.cells #[] 5)).heap.size 5 (.slice (some ⟨w.heap.size, 0, none⟩) 0 0) (bs []) :=
 Own.of (World.ownsRow_lit w #[] 0 h (Nat.zero_le _) rfl)
set_option maxRecDepth 1000000 in
theorem put_spec (w : World) (v : Value) (xs : List Int) (n : Int) (h : Sl w v (bs xs)) (hx : xs.length ≤ 70368744177664) :
  Calls Tryz.prog 173 #[v, .int .i64 n] w fun e w' => ∃ v', e = .returned v' ∧ Own w' w.heap.size w'.heap.size 5 v' (bs (xs ++ num n)) ∧ Below w.heap.size w w' := by
 obtain ⟨i0, hi, hz0, hz1, hz2⟩ := info_parts info5
 have c2 : (bs []).length + (bs xs).length ≤ maxLen := by rw [bs_len, bs_len]; unfold maxLen; simp; omega
 have c3 : ((bs []).length + (bs xs).length) * 1 ≤ 140737488355328 := by rw [bs_len, bs_len]; simp; omega
 have c4 : ∀ o, w.heap.size ≤ (w.alloc o).heap.size := fun o => by simp
 have hs2 : ∀ o, Sl (w.alloc o) v (bs xs) := fun o => h.later ((Below.refl _ _).alloc (Nat.le_refl _) o)
 have HB : Hid (0 ≤ clampN n ∧ clampN n ≤ 1000000000) := clampN_bd n
 have hway : (decide (1000000000 < n) = true ∧ clampN n = 1000000000) ∨ (decide (1000000000 < n) = false ∧ decide (n < 0) = true ∧ clampN n = 0) ∨ (decide (1000000000 < n) = false ∧ decide (n < 0) = false ∧ clampN n = n) := by
  simp only [decide_eq_true_eq, decide_eq_false_iff_not]
  unfold clampN; (split <;> (try split)) <;> omega
 rcases hway with ⟨hd1, hcl⟩ | ⟨hd1, hd2, hcl⟩ | ⟨hd1, hd2, hcl⟩
 all_goals
  have HC : Hid (clampN n = _) := hcl
  clear hcl
  go_enter Tryz.func173, Tryz.ntmps173
  go_wp2_with (at_builtin; go_must (refine wpl_app _ rfl (.tmp 6) (.tmp 7) 22 rfl 5 i0 (.int .u8 0) 1 Tryz.underlying22 hi hz0 hz1 hz2 rfl w.heap.size _ (bs []) rfl (Own.empty w _ (Nat.le_refl _)) _ rfl (bs xs) (hs2 _) (bs_one _) c2 c3 (c4 _) ?_))
  intro v1 w1 ho1 hb1 hg1
  have hb2 : Below w.heap.size w w1 := ((Below.refl _ _).alloc (Nat.le_refl _) _).trans hb1
  rw [← bs_app, List.nil_append] at ho1
  clear hg1 hb1 c2 c3 c4 hs2
  go_wp2
  go_loopw [1, 5] (fun nn b wr => ∃ (m : Nat) (ys : List Int), m ≤ 1000000000 ∧ nn = .int .i64 m ∧ ys ++ enc m = xs ++ num n ∧ Own wr w.heap.size wr.heap.size 5 b (bs ys) ∧ Below w.heap.size w wr) (fun nn _ _ => (intOf nn).toNat)
  case atStart =>
   have hcb := HB.out
   have hcl := HC.out
   exact ⟨(clampN n).toNat, xs, by omega, congrArg (Value.int .i64) (by omega), rfl, ho1, hb2⟩
  case round =>
   obtain ⟨m, ys, hm, rfl, hE0, ho, hb⟩ := hrel
   have HE : Hid (ys ++ enc m = xs ++ num n) := hE0
   have hyl : ys.length ≤ xs.length + 5 := by have := congrArg List.length hE0; have := (num_len n).2; simp at *; omega
   have hsz := hb.size
   have c2 : (bs ys).length + 1 ≤ maxLen := by rw [bs_len]; unfold maxLen; omega
   have c3 : ((bs ys).length + 1) * 1 ≤ 140737488355328 := by rw [bs_len]; omega
   have c4 : ∀ o, w.heap.size ≤ (wr.alloc o).heap.size := fun o => by simp; omega
   clear hE0
   by_cases hlt : 127 < m
   ·have HS : Hid ((ys ++ [((m % 128 + 128 : Nat) : Int)]) ++ enc (m / 128) = xs ++ num n) := by
     show _ = _; rw [← HE.out, enc_step (show ¬ m < 128 by omega), List.append_assoc]; rfl
    have hmask := and127 (n := (m : Int)) (by omega) (by omega)
    have hor := or128 (n := (m : Int) % 128) (by omega) (by omega)
    go_wp2_with (at_builtin; go_must (refine wpl_app _ rfl (.tmp 15) (.tmp 20) 22 rfl 5 i0 (.int .u8 0) 1 Tryz.underlying22 hi hz0 hz1 hz2 rfl w.heap.size _ (bs ys) rfl (ho.alloc _) _ rfl [.int .u8 ((m : Int) % 128 + 128)] (Sl.one _ _ _) (one_byte _) c2 c3 (c4 _) ?_); intro v3 w3 ho3 hb3 hg3)
    have hb4 : Below w.heap.size w w3 := (hb.alloc (by omega) _).trans hb3
    have ho4 : Own w3 w.heap.size w3.heap.size 5 v3 (bs (ys ++ [((m % 128 + 128 : Nat) : Int)])) := by rw [bs_app]; exact ho3
    go_roundw
    case rel => exact ⟨m / 128, ys ++ [((m % 128 + 128 : Nat) : Int)], by omega, by go_num, HS.out, ho4, hb4⟩
    case measure => simp [intOf]; omega
   ·have HS : Hid (ys ++ [(m : Int)] = xs ++ num n) := by show _ = _; rw [← HE.out, enc_small (show m < 128 by omega)]
    go_wp2_with (at_builtin; go_must (refine wpl_app _ rfl (.tmp 24) (.tmp 27) 22 rfl 5 i0 (.int .u8 0) 1 Tryz.underlying22 hi hz0 hz1 hz2 rfl w.heap.size _ (bs ys) rfl (ho.alloc _) _ rfl [.int .u8 (m : Int)] (Sl.one _ _ _) (one_byte _) c2 c3 (c4 _) ?_); intro v3 w3 ho3 hb3 hg3)
    have hb4 : Below w.heap.size w w3 := (hb.alloc (by omega) _).trans hb3
    have ho4 : Own w3 w.heap.size w3.heap.size 5 v3 (bs (xs ++ num n)) := by rw [← HS.out, bs_app]; exact ho3
    go_ret
    exact ⟨_, rfl, ho4, hb4⟩
def tx (s : ByteArray) : List Int := num (s.size : Int) ++ sb s
def tot : List ByteArray → Nat
 | [] => 0
 | s :: r => s.size + tot r
def txs : List ByteArray → List Int
 | [] => []
 | s :: r => tx s ++ txs r
theorem tx_len (s : ByteArray) : (tx s).length ≤ s.size + 5 := by
 unfold tx; have := num_len (s.size : Int); rw [List.length_append, sb_len]; omega
theorem txs_len (l : List ByteArray) : (txs l).length ≤ 5 * l.length + tot l := by
 induction l with
 | nil => simp [txs, tot]
 | cons s r ih => have := tx_len s; simp only [txs, tot, List.length_append, List.length_cons]; omega
theorem tx_byt (s : ByteArray) : Byt (tx s) := (num_byt _).app (sb_byt _)
set_option maxRecDepth 1000000 in
theorem putt_spec (w : World) (v : Value) (xs : List Int) (s : ByteArray) (h : Sl w v (bs xs)) (hx : xs.length ≤ 35184372088832) (hs : s.size ≤ 35184372088832) :
  Calls Tryz.prog 172 #[v, .string s] w fun e w' => ∃ v', e = .returned v' ∧ Own w' w.heap.size w'.heap.size 5 v' (bs (xs ++ tx s)) ∧ Below w.heap.size w w' := by
 obtain ⟨i0, hi, hz0, hz1, hz2⟩ := info_parts info5
 have hnl := num_len (s.size : Int)
 go_enter Tryz.func172, Tryz.ntmps172
 go_wp2_with fail
 refine (put_spec w v xs _ h (by omega)).mono ?_
 rintro e w1 ⟨v1, rfl, ho1, hb1⟩
 have hsz := hb1.size
 have c1 : (xs ++ num (s.size : Int)).length + s.size ≤ 140737488355328 := by rw [List.length_append]; omega
 go_wp2_with (at_builtin; go_must (refine wpl_str _ rfl (.tmp 8) (.tmp 9) 22 9 rfl 5 i0 Tryz.underlying22 Tryz.underlying9 hi hz0 hz1 hz2 w.heap.size _ _ rfl ho1 s rfl c1 hsz ?_); intro v2 w2 ho2 hb2)
 go_ret
 rw [List.append_assoc] at ho2
 exact ⟨_, rfl, ho2, hb1.trans hb2⟩
set_option maxRecDepth 1000000 in
theorem texts_any (w : World) (lo : Nat) (v : Value) (xs : List Int) (vt : Value) (l : List ByteArray) (h : Own w lo w.heap.size 5 v (bs xs)) (hlo : lo ≤ w.heap.size) (ht : Sl w vt (ss l)) (hkeep : ∀ w', Below lo w w' → 1 < l.length → Sl w' vt (ss l))
  (hx : xs.length + (txs l).length ≤ 35184372088832) (hl : l.length ≤ 35184372088832) :
  Calls Tryz.prog 144 #[v, vt] w fun e w' => ∃ v', e = .returned v' ∧ Own w' lo w'.heap.size 5 v' (bs (xs ++ txs l)) ∧ Below lo w w' := by
 obtain ⟨i0, hi, hz0, hz1, hz2⟩ := info_parts info5
 obtain ⟨ao, cap, rfl, hc, hn, hr⟩ := ht
 rw [ss_len] at hr hc hkeep
 rw [ss_len]
 go_enter Tryz.func144, Tryz.ntmps144
 go_wp2
 go_loopw [0, 9] (fun b i wr => ∃ (k : Nat) (ys : List Int), k ≤ l.length ∧ i = .int .i64 k ∧ ys ++ txs (l.drop k) = xs ++ txs l ∧ Own wr lo wr.heap.size 5 b (bs ys) ∧ Below lo w wr ∧ (k = 0 → wr = w)) (fun _ i _ => l.length - (intOf i).toNat)
 case atStart => exact ⟨0, xs, Nat.zero_le _, rfl, rfl, h, Below.refl _ _, fun _ => rfl⟩
 case round =>
  obtain ⟨k, ys, hk, rfl, hE0, ho, hb, hfirst⟩ := hrel
  have HE : Hid (ys ++ txs (l.drop k) = xs ++ txs l) := hE0
  have hsz := hb.size
  by_cases hlt : k < l.length
  ·obtain ⟨s, hs0⟩ : ∃ s, l[k]? = some s := ⟨l[k], by simp⟩
   have HD : Hid (l.drop k = s :: l.drop (k + 1)) := by
    obtain ⟨hk', rfl⟩ := List.getElem?_eq_some_iff.1 hs0
    exact List.drop_eq_getElem_cons hk'
   have hlen : ys.length + (tx s).length ≤ 35184372088832 := by
    have h1 := congrArg List.length HE.out
    rw [HD.out] at h1
    simp only [txs, List.length_append] at h1
    omega
   have htl : s.size ≤ (tx s).length := by unfold tx; rw [List.length_append, sb_len]; omega
   have hnl := num_len (s.size : Int)
   have hcl : ∃ b off, ao = some ⟨b, off, none⟩ ∧ wr.cell? ⟨b, off + k, none⟩ = some (.string s) := by
    have key : ∀ w0 : World, (0 < l.length → ∃ b off, ao = some ⟨b, off, none⟩ ∧ ∀ j, j < l.length → w0.cell? ⟨b, off + j, none⟩ = (ss l)[j]?) → ∃ b off, ao = some ⟨b, off, none⟩ ∧ w0.cell? ⟨b, off + k, none⟩ = some (.string s) := by
     intro w0 hq
     obtain ⟨b, off, he, hc⟩ := hq (by omega)
     exact ⟨b, off, he, by rw [hc k hlt]; simp [ss, hs0]⟩
    by_cases h0 : k = 0
    ·rw [hfirst h0]; exact key w hr
    ·obtain ⟨ao', cap', he, _, _, hr'⟩ := hkeep wr hb (by omega)
     rw [ss_len] at he hr'
     simp only [Value.slice.injEq] at he
     obtain ⟨rfl, _, rfl⟩ := he
     exact key wr hr'
   obtain ⟨b, off, rfl, hcell⟩ := hcl
   have HN : Hid ((ys ++ tx s) ++ txs (l.drop (k + 1)) = xs ++ txs l) := by
    show _ = _; rw [← HE.out, HD.out, List.append_assoc]; rfl
   clear hs0 HD hE0 HE hr hkeep hfirst h
   have hss : (s.size : Int) ≤ 35184372088832 := by omega
   go_wp2_with fail
   refine (nums_one _ lo _ ys wr.heap.size (s.size : Int) (ho.alloc _) (by simp; omega) (by omega) (new_cell _ _ _)).mono ?_
   rintro e w1 ⟨v1, rfl, ho1, hb1⟩
   have hb1' : Below lo w w1 := (hb.alloc (by omega) _).trans hb1
   have hsz1 : lo ≤ w1.heap.size := by have := hb1'.size; omega
   have c1 : (ys ++ num (s.size : Int)).length + s.size ≤ 140737488355328 := by rw [List.length_append]; omega
   go_wp2_with (at_builtin; go_must (refine wpl_str _ rfl (.tmp 17) (.tmp 18) 22 9 rfl 5 i0 Tryz.underlying22 Tryz.underlying9 hi hz0 hz1 hz2 lo _ _ rfl ho1 s rfl c1 hsz1 ?_); intro v2 w2 ho2 hb2)
   rw [List.append_assoc] at ho2
   have hb3 : Below lo w w2 := hb1'.trans hb2
   go_roundw
   case rel => exact ⟨k + 1, ys ++ tx s, by omega, by go_num, HN.out, ho2, hb3, fun h => by omega⟩
   case measure => simp [intOf]; omega
  ·go_wp2
   go_ret
   have h1 := HE.out
   rw [List.drop_eq_nil_of_le (by omega)] at h1
   simp only [txs, List.append_nil] at h1
   rw [h1] at ho
   exact ⟨_, rfl, ho, hb⟩
theorem Sl.oneStr (w : World) (s : ByteArray) (t : TypeId) : Sl (w.alloc (.cells #[.string s] t)) (.slice (some ⟨w.heap.size, 0, none⟩) 1 1) (ss [s]) := Sl.one w (.string s) t
theorem drop_str {l : List ByteArray} {k : Nat} {s : ByteArray} (h : l[k]? = some s) : l.drop k = s :: l.drop (k + 1) := by
 obtain ⟨hk, rfl⟩ := List.getElem?_eq_some_iff.1 h
 exact List.drop_eq_getElem_cons hk
set_option maxRecDepth 1000000 in
theorem putts_spec (w : World) (v vt : Value) (xs : List Int) (l : List ByteArray) (h : Sl w v (bs xs)) (ht : Sl w vt (ss l)) (hx : xs.length + (txs l).length + 5 ≤ 10000000000000) (hl : l.length ≤ 10000000000000) :
  Calls Tryz.prog 171 #[v, vt] w fun e w' => ∃ v', e = .returned v' ∧ Own w' w.heap.size w'.heap.size 5 v' (bs (xs ++ num (l.length : Int) ++ txs l)) ∧ Below w.heap.size w w' := by
 have hlater : ∀ w', Below w.heap.size w w' → Sl w' vt (ss l) := fun w' hb => ht.later hb
 obtain ⟨ao, cap, rfl, hc, hn, hr⟩ := ht
 rw [ss_len] at hr hc hlater
 rw [ss_len]
 have hnl := num_len (l.length : Int)
 obtain ⟨R, hR⟩ : ∃ R, R = xs ++ num (l.length : Int) ++ txs l := ⟨_, rfl⟩
 have HR : Hid (xs ++ num (l.length : Int) ++ txs l = R) := hR.symm
 have hRl : R.length ≤ 10000000000000 := by rw [hR]; simp only [List.length_append]; omega
 clear hR hr hn
 go_enter Tryz.func171, Tryz.ntmps171
 go_wp2_with fail
 refine (put_spec w v xs _ h (by omega)).mono ?_
 rintro e w1 ⟨v1, rfl, ho1, hb1⟩
 go_wp2_with fail
 go_loopw [5, 6] (fun b i wr => ∃ (k : Nat) (ys : List Int), k ≤ l.length ∧ i = .int .i64 k ∧ ys ++ txs (l.drop k) = R ∧ Own wr w.heap.size wr.heap.size 5 b (bs ys) ∧ Below w.heap.size w wr) (fun _ i _ => l.length - (intOf i).toNat)
 case atStart => exact ⟨0, _, Nat.zero_le _, rfl, HR.out, ho1, hb1⟩
 case round =>
  obtain ⟨k, ys, hk, rfl, hE0, ho, hb⟩ := hrel
  have HE : Hid (ys ++ txs (l.drop k) = R) := hE0
  have hsz := hb.size
  clear hE0 ho1 hb1
  by_cases hlt : k < l.length
  ·obtain ⟨ao', cap', he, _, _, hr'⟩ := hlater wr hb
   rw [ss_len] at he hr'
   simp only [Value.slice.injEq] at he
   obtain ⟨rfl, _, rfl⟩ := he
   obtain ⟨b, off, s, rfl, hx0, hcell⟩ := Sl.strAt hr' rfl hlt
   have HN : Hid ((ys ++ tx s) ++ txs (l.drop (k + 1)) = R) := by
    show _ = _; rw [← HE.out, drop_str hx0, List.append_assoc]; rfl
   have hlen : ys.length + (tx s).length ≤ 10000000000000 := by
    have h1 := congrArg List.length HN.out
    simp only [List.length_append] at h1
    omega
   have htl : s.size ≤ (tx s).length := by unfold tx; rw [List.length_append, sb_len]; omega
   clear hx0 hr' hlater HR HE
   go_wp2_with fail
   refine (putt_spec wr _ ys s ho.sl (by omega) (by omega)).mono ?_
   rintro e w2 ⟨v2, rfl, ho2, hb2⟩
   have ho3 := ho2.mono hsz (Nat.le_refl _)
   have hb3 : Below w.heap.size w w2 := hb.trans (hb2.mono hsz)
   go_wp2
   go_roundw
   case rel => exact ⟨k + 1, ys ++ tx s, by omega, by go_num, HN.out, ho3, hb3⟩
   case measure => simp [intOf]; omega
  ·go_wp2
   go_ret
   have h1 := HE.out
   rw [List.drop_eq_nil_of_le (by omega)] at h1
   simp only [txs, List.append_nil] at h1
   rw [HR.out, ← h1]
   exact ⟨_, rfl, ho, hb⟩
set_option maxRecDepth 1000000 in
theorem putts_impl (w : World) (v vt : Value) (xs : List Int) (l : List ByteArray) (h : Sl w v (bs xs)) (ht : Sl w vt (ss l)) (hx : xs.length + (txs l).length + 5 ≤ 10000000000000) (hl : l.length ≤ 10000000000000) :
  Calls Tryz.prog 143 #[v, vt] w fun e w' => ∃ v', e = .returned v' ∧ Own w' w.heap.size w'.heap.size 5 v' (bs (xs ++ num (l.length : Int) ++ txs l)) ∧ Below w.heap.size w w' := by
 have hlater : ∀ w', Below w.heap.size w w' → Sl w' vt (ss l) := fun w' hb => ht.later hb
 obtain ⟨ao, cap, rfl, hc, hn, hr⟩ := ht
 rw [ss_len] at hr hc hlater
 rw [ss_len]
 have hnl := num_len (l.length : Int)
 go_enter Tryz.func143, Tryz.ntmps143
 go_wp2_with fail
 refine (own_any w v xs h (by omega)).mono ?_
 rintro e w1 ⟨v1, rfl, ho1, hb1⟩
 have hsz := hb1.size
 go_wp2_with fail
 refine (nums_one _ w.heap.size v1 xs w1.heap.size (l.length : Int) (ho1.alloc _) (by simp; omega) (by omega) (new_cell _ _ _)).mono ?_
 rintro e w2 ⟨v2, rfl, ho2, hb2⟩
 have hb3 : Below w.heap.size w w2 := (hb1.alloc (by omega) _).trans hb2
 have hsz2 := hb3.size
 go_wp2_with fail
 refine (texts_any w2 w.heap.size v2 _ _ l ho2 hsz2 (hlater _ hb3) (fun w' hb _ => hlater w' (hb3.trans hb)) (by rw [List.length_append]; omega) (by omega)).mono ?_
 rintro e w4 ⟨v4, rfl, ho4, hb4⟩
 go_wp2
 go_ret
 exact ⟨_, rfl, ho4, hb3.trans hb4⟩
end Go.Proofs.YtchonoonclllbaaGreatDoor.Puts

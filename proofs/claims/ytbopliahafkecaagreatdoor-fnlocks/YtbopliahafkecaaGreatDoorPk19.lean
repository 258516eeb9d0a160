/- Texts in one: Sha4, Sha5, Tr1, Tr2, Tr3, Tr4, Tr5, Tr6. -/
import Derived.Test.YtbopliahafkecaaGreatDoorPk18
import Derived.Test.YtbopliahafkecaaGreatDoorPk14
import Derived.Deep.RegionHeld3
/- Contract of the specification's digest: of any bytes, the 32 bytes of the eight words behind all blocks. -/
namespace Go.Proofs.YtbopliahafkecaaGreatDoor.Sha
open Go.RowKit Go.Proofs.YtbopliahafkecaaGreatDoor.Mem Go.Proofs.YtbopliahafkecaaGreatDoor.Laws Go.Proofs.YtbopliahafkecaaGreatDoor.Bytes
set_option linter.unusedVariables false
set_option linter.unusedSimpArgs false

/-- the constants of the cube roots, and the words of the square roots -/
def KC : List Nat := [1116352408, 1899447441, 3049323471, 3921009573, 961987163, 1508970993, 2453635748, 2870763221, 3624381080, 310598401, 607225278, 1426881987, 1925078388, 2162078206, 2614888103, 3248222580, 3835390401, 4022224774, 264347078, 604807628, 770255983, 1249150122, 1555081692, 1996064986, 2554220882, 2821834349, 2952996808, 3210313671, 3336571891, 3584528711, 113926993, 338241895, 666307205, 773529912, 1294757372, 1396182291, 1695183700, 1986661051, 2177026350, 2456956037, 2730485921, 2820302411, 3259730800, 3345764771, 3516065817, 3600352804, 4094571909, 275423344, 430227734, 506948616, 659060556, 883997877, 958139571, 1322822218, 1537002063, 1747873779, 1955562222, 2024104815, 2227730452, 2361852424, 2428436474, 2756734187, 3204031479, 3329325298]
def H0 : List Nat := [1779033703, 3144134277, 1013904242, 2773480762, 1359893119, 2600822924, 528734635, 1541459225]
theorem KC_len : KC.length = 64 := rfl
theorem KC_lt : ∀ x ∈ KC, x < 4294967296 := by decide

theorem H0_lt : ∀ x ∈ H0, x < 4294967296 := by decide

def dblocks : Nat → List Nat → List Int → List Nat
  | 0, H, _ => H
  | n + 1, H, ys => dblocks n (blk H (ys.take 64) KC) (ys.drop 64)
def be4 (x : Nat) : List Int := [((x / 16777216 % 256 : Nat) : Int), ((x / 65536 % 256 : Nat) : Int), ((x / 256 % 256 : Nat) : Int), ((x % 256 : Nat) : Int)]
/-- the digest's 32 bytes -/
def digest (xs : List Int) : List Int := (dblocks ((padded xs).length / 64) H0 (padded xs)).flatMap be4

theorem padded_len (xs : List Int) : (padded xs).length % 64 = 0 := by
  unfold padded zc
  simp [be8]
  omega
theorem padded_le (xs : List Int) : (padded xs).length ≤ xs.length + 73 := by
  unfold padded zc
  simp [be8]
  omega
theorem be8_byt (n : Nat) : Byt (be8 n) := by
  intro x hx
  simp only [be8, List.mem_cons, List.not_mem_nil, or_false] at hx
  omega
theorem padded_byt {xs : List Int} (h : Byt xs) : Byt (padded xs) := by
  unfold padded
  refine ((h.app ?_).app ?_).app (be8_byt _)
  · intro x hx; rw [List.mem_singleton] at hx; omega
  · intro x hx; have := List.eq_of_mem_replicate hx; omega

theorem lit_own (w : World) (lo : Nat) (cs : Array Value) (n : Nat) (L : List Nat) (hn : cs.toList = ns L) (hl : L.length = n) (h : lo ≤ w.heap.size) (hm : n ≤ 1000) : Own (w.alloc (.cells cs 3)) lo (w.alloc (.cells cs 3)).heap.size 3 (.slice (some ⟨w.heap.size, 0, none⟩) n n) (ns L) := by
  have hs : cs.size = n * 1 := by have := congrArg List.length hn; rw [ns_len, hl, Array.length_toList] at this; omega
  have := Own.of (World.ownsRow_lit (e := 3) (base := lo) (size := 1) w cs n h (by unfold maxLen; omega) hs)
  rw [hn] at this
  exact this

set_option maxRecDepth 1000000 in
set_option maxHeartbeats 1000000 in
theorem k_spec (w : World) : Calls Tryz.prog 97 #[] w fun e w' => ∃ v', e = .returned v' ∧ Own w' w.heap.size w'.heap.size 3 v' (ns KC) ∧ Below w.heap.size w w' := by
  go_enter Tryz.func97, Tryz.ntmps97
  go_wp2
  go_ret
  exact ⟨_, rfl, lit_own w _ _ 64 KC rfl rfl (Nat.le_refl _) (by omega), (Below.refl _ _).alloc (Nat.le_refl _) _⟩

theorem flat4 (l : List Nat) : (l.flatMap be4).length = 4 * l.length := by
  induction l with
  | nil => rfl
  | cons x r ih => rw [List.flatMap_cons, List.length_append, ih, List.length_cons]; simp [be4]; omega
theorem be4_byt (x : Nat) : Byt (be4 x) := by
  intro y hy
  simp only [be4, List.mem_cons, List.not_mem_nil, or_false] at hy
  omega
theorem flat_byt (l : List Nat) : Byt (l.flatMap be4) := by
  intro y hy
  obtain ⟨x, _, hx⟩ := List.mem_flatMap.1 hy
  exact be4_byt x y hx
theorem Sl.four (w : World) (a b c d : Int) (t : TypeId) : Sl ((w.alloc (.cells #[.int .u8 a, .int .u8 b, .int .u8 c, .int .u8 d] t)).drew) (.slice (some ⟨w.heap.size, 0, none⟩) 4 4) (bs [a, b, c, d]) := by
  refine ⟨some ⟨w.heap.size, 0, none⟩, 4, rfl, by simp [bs], fun h => (by cases h), fun _ => ⟨w.heap.size, 0, rfl, fun j hj => ?_⟩⟩
  show (w.alloc _).cell? _ = _
  rw [cell_of_row _ w.heap.size (0 + j) #[.int .u8 a, .int .u8 b, .int .u8 c, .int .u8 d] t (0, 0) (heap_alloc_new w _)]
  have h2 : j = 0 ∨ j = 1 ∨ j = 2 ∨ j = 3 := by simp [bs] at hj; omega
  rcases h2 with rfl | rfl | rfl | rfl <;> simp [bs]

theorem len8 {L : List Nat} (h : L.length = 8) : ∃ a b c d e f q r, L = [a, b, c, d, e, f, q, r] := by
  match L, h with
  | [a, b, c, d, e, f, q, r], _ => exact ⟨a, b, c, d, e, f, q, r, rfl⟩
theorem rnds_len (K : List Nat) : ∀ (X v : List Nat), v.length = 8 → (rnds K X v).length = 8 := by
  induction K with
  | nil => intro X v h; rw [rnds]; exact h; intro k ks x xs a b c d e f g h h1; cases h1
  | cons k ks ih =>
    intro X v h
    cases X with
    | nil => rw [rnds]; exact h; intro k ks x xs a b c d e f g h h1 h2; cases h2
    | cons x xs =>
      obtain ⟨a, b, c, d, e, f, q, r, rfl⟩ := len8 h
      rw [rnds]
      exact ih xs _ rfl
theorem blk_len (a b c d e f q h : Nat) (ys : List Int) (K : List Nat) : (blk [a, b, c, d, e, f, q, h] ys K).length = 8 := by
  unfold blk
  rw [List.length_zipWith, rnds_len K _ _ rfl]
  rfl
theorem blk_lt (H : List Nat) (ys : List Int) (K : List Nat) : ∀ x ∈ blk H ys K, x < 4294967296 := by
  intro x hx
  unfold blk at hx
  obtain ⟨j, hj, rfl⟩ := List.getElem_of_mem hx
  rw [List.getElem_zipWith]
  exact Nat.mod_lt _ (by decide)

set_option maxRecDepth 1000000 in
set_option maxHeartbeats 2000000 in
theorem digest_spec (w : World) (v : Value) (xs : List Int) (h : Sl w v (bs xs)) (hby : Byt xs) (hx : xs.length ≤ 1000000000000) :
    Calls Tryz.prog 75 #[v] w fun e w' => e = .returned (.string (Plain.txt (digest xs))) ∧ Below w.heap.size w w' := by
  obtain ⟨i0, hi, hz0, hz1, hz2⟩ := info_parts info5
  go_enter Tryz.func75, Tryz.ntmps75
  go_wp2_with fail
  refine (padded_spec w v xs h hx).mono ?_
  rintro e w1 ⟨vp, rfl, op1, b1⟩
  have s1 := b1.size
  obtain ⟨P, hP⟩ : ∃ P, P = padded xs := ⟨_, rfl⟩
  have hPl := padded_len xs
  have hPm := padded_le xs
  have hPb := padded_byt hby
  rw [← hP] at op1 hPl hPm hPb
  have HP : Hid (P = padded xs) := hP
  have hPpos : 0 < P.length := by rw [hP]; simp only [padded, List.length_append, List.length_cons, List.length_nil]; omega
  clear hP
  have oh0 : ∀ cs : Array Value, cs.toList = ns H0 → Own (w1.alloc (.cells cs 3)) w1.heap.size (w1.alloc (.cells cs 3)).heap.size 3 (.slice (some ⟨w1.heap.size, 0, none⟩) 8 8) (ns H0) := fun cs hcs => lit_own w1 _ cs 8 H0 hcs rfl (Nat.le_refl _) (by omega)
  have ohl := oh0 _ (show (#[.int .i64 1779033703, .int .i64 3144134277, .int .i64 1013904242, .int .i64 2773480762, .int .i64 1359893119, .int .i64 2600822924, .int .i64 528734635, .int .i64 1541459225] : Array Value).toList = ns H0 from rfl)
  have op2 := op1.later ((Below.refl w1.heap.size w1).alloc (Nat.le_refl _) (.cells #[.int .i64 1779033703, .int .i64 3144134277, .int .i64 1013904242, .int .i64 2773480762, .int .i64 1359893119, .int .i64 2600822924, .int .i64 528734635, .int .i64 1541459225] 3)) (Nat.le_refl _)
  go_wp2_with fail
  refine (k_spec _).mono ?_
  rintro e w3 ⟨vk, rfl, ok3, b3⟩
  have oh3 := ohl.later b3 (Nat.le_refl _)
  have op3 := op2.later b3 (by simp)
  have s3 := b3.size
  have s13 : w1.heap.size < w3.heap.size := by have := s3; simp at this; omega
  have hB3 : Below w.heap.size w w3 := (b1.alloc s1 _).trans (b3.mono (by simp; omega))
  obtain ⟨gk, capk, rfl, hgk1, hgk2, hcapk, hck⟩ := Own.form ok3 (by rw [ns_len, KC_len]; omega)
  obtain ⟨gp, capp, rfl, hgp1, hgp2, hcapp, hcp⟩ := Own.form op3 (by rw [bs_len]; omega)
  rw [ns_len, KC_len] at hcapk
  rw [bs_len] at hcapp
  rw [ns_len, KC_len, bs_len]
  clear ohl op2 op1 oh0 ok3 op3
  go_wp2
  go_loopw [4, 6] (fun vh i wr => ∃ (t a b c d e f q h : Nat), 64 * t ≤ P.length ∧ i = .int .i64 (64 * (t : Int)) ∧ (∀ x ∈ [a, b, c, d, e, f, q, h], x < 4294967296) ∧ dblocks (P.length / 64 - t) [a, b, c, d, e, f, q, h] (P.drop (64 * t)) = dblocks (P.length / 64) H0 P ∧ Own wr w1.heap.size wr.heap.size 3 vh (ns [a, b, c, d, e, f, q, h]) ∧ Below w3.heap.size w3 wr) (fun _ i _ => P.length + 64 - (intOf i).toNat)
  case atStart => exact ⟨0, _, _, _, _, _, _, _, _, by omega, rfl, H0_lt, rfl, oh3.mono (Nat.le_refl _) s3, Below.refl _ _⟩
  case round =>
    obtain ⟨t, a, b, c, d, e, f, q, h, ht, rfl, hb8, hE0, ho, hb⟩ := hrel
    have HE : Hid (dblocks (P.length / 64 - t) [a, b, c, d, e, f, q, h] (P.drop (64 * t)) = dblocks (P.length / 64) H0 P) := hE0
    have hsz := hb.size
    have hBw : Below w.heap.size w wr := hB3.trans (hb.mono (by omega))
    clear hE0 oh3
    by_cases hlt : 64 * t < P.length
    · obtain ⟨g, capv, rfl, hg1, hg2, hcapv, hcv⟩ := Own.form ho (by simp [ns])
      have hcapv8 : 8 ≤ capv := by simpa [ns] using hcapv
      have hlen8 : (ns [a, b, c, d, e, f, q, h]).length = 8 := by simp [ns]
      rw [hlen8]
      have h64 : 64 * t + 64 ≤ P.length := by omega
      have hyl : ((P.drop (64 * t)).take 64).length = 64 := by simp; omega
      have hyb : Byt ((P.drop (64 * t)).take 64) := fun x hx => hPb x (List.mem_of_mem_drop (List.mem_of_mem_take hx))
      have hyc : ∀ j, j < ((P.drop (64 * t)).take 64).length → wr.cell? ⟨gp, 64 * t + j, none⟩ = (bs ((P.drop (64 * t)).take 64))[j]? := by
        intro j hj
        rw [hyl] at hj
        rw [hb.cell (p := ⟨gp, 64 * t + j, none⟩) (show gp < w3.heap.size by omega), hcp (64 * t + j) (by rw [bs_len]; omega), bs_get, bs_get, List.getElem?_take, if_pos hj, List.getElem?_drop]
      have hkc : ∀ j, j < (ns KC).length → wr.cell? ⟨gk, 0 + j, none⟩ = (ns KC)[j]? := by
        intro j hj
        rw [Nat.zero_add, hb.cell (p := ⟨gk, j, none⟩) (show gk < w3.heap.size by omega)]; exact hck j hj
      have hhc : ∀ j, j < (ns [a, b, c, d, e, f, q, h]).length → wr.cell? ⟨g, 0 + j, none⟩ = (ns [a, b, c, d, e, f, q, h])[j]? := by
        intro j hj
        rw [Nat.zero_add]; exact hcv j hj
      have hblk := block_spec wr g 0 capv gp (64 * t) (capp - 64 * t) gk 0 capk a b c d e f q h _ KC hb8 hhc hcapv8 hyl (by omega) hyb hyc KC_len KC_lt hkc (by omega)
      have HN : Hid (dblocks (P.length / 64 - (t + 1)) (blk [a, b, c, d, e, f, q, h] ((P.drop (64 * t)).take 64) KC) (P.drop (64 * (t + 1))) = dblocks (P.length / 64) H0 P) := by
        have h1 := HE.out
        rw [show P.length / 64 - t = (P.length / 64 - (t + 1)) + 1 by omega, dblocks, List.drop_drop] at h1
        rw [show 64 * (t + 1) = 64 * t + 64 by omega]
        exact h1
      clear hyl hyb hyc hkc hhc hcv hcapv hlen8 HE
      obtain ⟨a', b', c', d', e', f', q', h', hL⟩ := len8 (blk_len a b c d e f q h ((P.drop (64 * t)).take 64) KC)
      have hLb := blk_lt [a, b, c, d, e, f, q, h] ((P.drop (64 * t)).take 64) KC
      rw [hL] at hblk HN hLb
      clear hL hb8 ho
      go_wp2_with fail
      refine hblk.mono ?_
      rintro e w5 ⟨v5, rfl, o5, b5⟩
      have hb5 : Below w3.heap.size w3 w5 := hb.trans (b5.mono hsz)
      have o5' := o5.mono (show w1.heap.size ≤ wr.heap.size by omega) (Nat.le_refl _)
      clear hblk
      go_wp2
      go_roundw
      case rel => exact ⟨t + 1, a', b', c', d', e', f', q', h', by omega, by go_num, hLb, HN.out, o5', hb5⟩
      case measure => simp [intOf]; omega
    · have hend : P.length / 64 - t = 0 := by omega
      have HF : Hid ([a, b, c, d, e, f, q, h].flatMap be4 = digest xs) := by
        have h1 := HE.out
        rw [hend, dblocks] at h1
        show _ = _
        rw [h1, HP.out]
        rfl
      obtain ⟨Z, hZ⟩ : ∃ Z, Z = [a, b, c, d, e, f, q, h] := ⟨_, rfl⟩
      have hZl : Z.length = 8 := by rw [hZ]; rfl
      rw [← hZ] at HF hb8 ho
      obtain ⟨g, capv, rfl, hg1, hg2, hcapv, hcv⟩ := Own.form ho (by rw [ns_len, hZl]; omega)
      rw [ns_len, hZl] at hcapv
      rw [ns_len, hZl]
      obtain ⟨wz, hwz⟩ : ∃ z, z = wr := ⟨_, rfl⟩
      subst hwz
      have oe := Own.emptyB wz wz.heap.size (Nat.le_refl _)
      have be : Below wz.heap.size wz (wz.alloc (.cells #[] 5)) := (Below.refl _ _).alloc (Nat.le_refl _) _
      clear hZ HE ho hend
      go_wp2
      go_loopw [7, 8] (fun o i w' => ∃ m : Nat, m ≤ 8 ∧ i = .int .i64 (m : Int) ∧ Own w' wz.heap.size w'.heap.size 5 o (bs ((Z.take m).flatMap be4)) ∧ Below wz.heap.size wz w') (fun _ i _ => 8 - (intOf i).toNat)
      case atStart => exact ⟨0, by omega, rfl, oe, be⟩
      case round =>
        obtain ⟨m, hm, rfl, ho9, hb9⟩ := hrel
        have hs9 := hb9.size
        clear oe be
        by_cases hlt9 : m < 8
        · have kz : wr.cell? ⟨g, m, none⟩ = some (.int .i64 ((Z.getD m 0 : Nat) : Int)) := by
            rw [hb9.cell (p := ⟨g, m, none⟩) hg2]; exact ns_cell hcv m (by omega)
          have lz : Z.getD m 0 < 4294967296 := getD_lt hb8 m
          have HT : Hid ((Z.take (m + 1)).flatMap be4 = (Z.take m).flatMap be4 ++ be4 (Z.getD m 0)) := by
            show _ = _
            rw [List.take_succ_eq_append_getElem (by omega), List.flatMap_append]
            simp [List.getD, hZl, hlt9]
          obtain ⟨zm, ezm⟩ : ∃ z, Z.getD m 0 = z := ⟨_, rfl⟩
          rw [ezm] at kz lz HT
          have hl : (bs ((Z.take m).flatMap be4)).length ≤ 1000 := by rw [bs_len, flat4]; simp; omega
          have c2 : ∀ a b c d : Int, (bs ((Z.take m).flatMap be4)).length + (bs [a, b, c, d]).length ≤ maxLen := fun a b c d => by simp only [bs_len, List.length_cons, List.length_nil] at *; unfold maxLen; omega
          have c3 : ∀ a b c d : Int, ((bs ((Z.take m).flatMap be4)).length + (bs [a, b, c, d]).length) * 1 ≤ 140737488355328 := fun a b c d => by simp only [bs_len, List.length_cons, List.length_nil] at *; omega
          have c4 : ∀ o, wz.heap.size ≤ ((wr.alloc o).drew).heap.size := fun o => by simp; omega
          have ho' : ∀ o, Own ((wr.alloc o).drew) wz.heap.size ((wr.alloc o).drew).heap.size 5 _ (bs ((Z.take m).flatMap be4)) := fun o => Own.alloc ho9 o
          have z0 : (0 : Int) ≤ (m : Int) := by omega
          have z1 : (m : Int) < 8 := by omega
          have nn := World.new_ne wr ⟨g, m, none⟩ kz
          clear ezm hl hcv
          go_wp2
          go_region_held3 (fun w' => w'.cell? ⟨g, m, none⟩ = some (.int .i64 (zm : Int))) (first | go_keep | (rw [hb10.cell (by exact hg2)]; assumption))
            ((refine step_app (by rfl) (.tmp 32) (.tmp 56) 22 (by rfl) 5 i0 (.int .u8 0) 1 Tryz.underlying22 hi hz0 hz1 hz2 rfl wz.heap.size _ _ (by rfl) (ho' _) _ (by rfl) _ (Sl.four wr _ _ _ _ _) (bs_one _) (c2 _ _ _ _) (c3 _ _ _ _) (c4 _) ?_; intro v10 w10 ho10 hb10))
          have E4 : [IntKind.u8.wrap ((zm : Int) / 16777216), IntKind.u8.wrap ((zm : Int) / 65536), IntKind.u8.wrap ((zm : Int) / 256), IntKind.u8.wrap (zm : Int)] = be4 zm := by
            simp only [IntKind.wrap_u8, be4]
            congr 1 <;> simp
          rw [E4, ← bs_app, ← HT.out] at ho10
          have hb11 : Below wz.heap.size wz w10 := (Below.drew (hb9.alloc hs9 _)).trans hb10
          clear E4 c2 c3 c4 ho' hb10 nn kz
          go_wp2
          go_roundw
          case rel => exact ⟨m + 1, by omega, by go_num, ho10, hb11⟩
          case measure => simp [intOf]; omega
        · rw [List.take_of_length_le (by omega), HF.out] at ho9
          have hconv := conv_sl ho9.sl (by rw [← HF.out]; exact flat_byt Z)
          go_wp2
          go_ret
          exact ⟨rfl, hBw.trans (hb9.mono (by omega))⟩

end Go.Proofs.YtbopliahafkecaaGreatDoor.Sha

/- Plain facts of digests: 32 bytes, which come back of their hex digits; what is padded begins with what there was. -/
namespace Go.Proofs.YtbopliahafkecaaGreatDoor.Sha
open Go.Proofs.YtbopliahafkecaaGreatDoor.Mem Go.Proofs.YtbopliahafkecaaGreatDoor.Laws

theorem blk_len8 {H : List Nat} (h : H.length = 8) (ys : List Int) (K : List Nat) : (blk H ys K).length = 8 := by
  obtain ⟨a, b, c, d, e, f, q, r, rfl⟩ := len8 h
  exact blk_len a b c d e f q r ys K
theorem dblocks_len (n : Nat) : ∀ (H : List Nat) (ys : List Int), H.length = 8 → (dblocks n H ys).length = 8 := by
  induction n with
  | zero => intro H ys h; exact h
  | succ n ih => intro H ys h; rw [dblocks]; exact ih _ _ (blk_len8 h _ _)
theorem digest_len (xs : List Int) : (digest xs).length = 32 := by
  unfold digest
  rw [flat4, dblocks_len _ _ _ rfl]
theorem digest_byt (xs : List Int) : Byt (digest xs) := flat_byt _

theorem txt_size (l : List Int) : (Plain.txt l).size = l.length := by
  show (Plain.txt l).data.size = _
  simp [Plain.txt, Plain.u8s]
theorem sb_txt {l : List Int} (h : Byt l) : sb (Plain.txt l) = l := by
  unfold sb Plain.txt Plain.u8s
  simp only [List.map_map]
  have e : ∀ x ∈ l, ((fun b : UInt8 => (b.toNat : Int)) ∘ fun x : Int => UInt8.ofNat x.toNat) x = x := fun x hx => Plain.u8_back (h x hx)
  rw [List.map_congr_left e]
  simp

theorem undig_hexd {d : Int} (h0 : 0 ≤ d) (h1 : d < 16) : undig (hexd d) = d := by
  unfold undig hexd
  split
  · rw [if_pos (by omega)]; omega
  · rw [if_neg (by omega), if_pos (by omega)]; omega
theorem unhex_hexs (l : List Int) (h : Byt l) : unhex (hexs l) = some l := by
  induction l with
  | nil => rfl
  | cons c r ih =>
    have hc := h c (List.mem_cons_self ..)
    have e : hexs (c :: r) = hexd (c / 16) :: hexd (c % 16) :: hexs r := by
      rw [show c :: r = [c] ++ r from rfl, hexs_app, hexs_one]; rfl
    have e1 := undig_hexd (d := c / 16) (by omega) (by omega)
    have e2 := undig_hexd (d := c % 16) (by omega) (by omega)
    rw [e, unhex_good (by rw [e1, e2]; omega), ih (fun x hx => h x (List.mem_cons_of_mem _ hx)), e1, e2]
    simp only [Option.map_some, Option.some.injEq, List.cons.injEq, and_true]
    omega
theorem unHex_back {l : List Int} (h : Byt l) : unHex (Plain.txt (hexs l)) = (Plain.txt l, true) :=
  unHex_some (by rw [sb_txt (hexs_byt l h)]; exact unhex_hexs l h)

theorem padded_ge (xs : List Int) : xs.length + 9 ≤ (padded xs).length := by
  simp only [padded, be8, List.length_append, List.length_cons, List.length_nil, List.length_replicate]
  omega
theorem padded_at (xs : List Int) : (padded xs)[xs.length]? = some 128 := by
  unfold padded
  rw [List.append_assoc, List.append_assoc, List.getElem?_append_right (Nat.le_refl _), Nat.sub_self]
  rfl
theorem padded_pre (xs : List Int) (j : Nat) (h : j < xs.length) : (padded xs)[j]? = xs[j]? := by
  unfold padded
  rw [List.append_assoc, List.append_assoc, List.getElem?_append_left h]

end Go.Proofs.YtbopliahafkecaaGreatDoor.Sha

/- Chapter 6: trees of digests, plain facts alone. -/
namespace Go.Proofs.YtbopliahafkecaaGreatDoor.Tr
open Go.RowKit Go.Proofs.YtbopliahafkecaaGreatDoor.Mem Go.Proofs.YtbopliahafkecaaGreatDoor.Laws Go.Proofs.YtbopliahafkecaaGreatDoor.Sha
set_option linter.unusedVariables false
set_option linter.unusedSimpArgs false

/-- what holds of a list if it holds of all shorter ones -/
theorem lenRec {P : List ByteArray → Prop} (h : ∀ l, (∀ r, r.length < l.length → P r) → P l) (l : List ByteArray) : P l := by
  have key : ∀ (N : Nat) (l : List ByteArray), l.length < N → P l := by
    intro N
    induction N with
    | zero => intro l hl; omega
    | succ N ih => intro l hl; exact h l (fun r hr => ih r (by omega))
  exact key (l.length + 1) l (Nat.lt_succ_self _)
/-- what holds of a number if it holds of all lesser ones -/
theorem natRec {P : Nat → Prop} (h : ∀ n, (∀ m, m < n → P m) → P n) (n : Nat) : P n := by
  have key : ∀ (N : Nat) (n : Nat), n < N → P n := by
    intro N
    induction N with
    | zero => intro n hn; omega
    | succ N ih => intro n hn; exact h n (fun m hm => ih m (by omega))
  exact key (n + 1) n (Nat.lt_succ_self _)

/-- a number doubled from k on while it stays below n -/
def halfF : Nat → Nat → Nat → Nat
  | 0, k, _ => k
  | f + 1, k, n => if 2 * k < n then halfF f (2 * k) n else k
/-- the greatest power of 2 that is less than n (of 2 or more) -/
def half (n : Nat) : Nat := halfF n 1 n
/-- a power of 2 -/
def Pow (p : Nat) : Prop := ∃ e, p = 2 ^ e
theorem halfF_ok : ∀ (f k n : Nat), 1 ≤ k → k < n → n ≤ k + f → Pow k → Pow (halfF f k n) ∧ halfF f k n < n ∧ n ≤ 2 * halfF f k n := by
  intro f
  induction f with
  | zero => intro k n h1 h2 h3; omega
  | succ f ih =>
    intro k n h1 h2 h3 hp
    unfold halfF
    split
    · exact ih (2 * k) n (by omega) (by assumption) (by omega) (by obtain ⟨e, rfl⟩ := hp; exact ⟨e + 1, by rw [Nat.pow_succ]; omega⟩)
    · exact ⟨hp, h2, by omega⟩
theorem half_ok {n : Nat} (h : 2 ≤ n) : Pow (half n) ∧ half n < n ∧ n ≤ 2 * half n := halfF_ok n 1 n (by omega) (by omega) (by omega) ⟨0, rfl⟩
theorem half_pos {n : Nat} (h : 2 ≤ n) : 1 ≤ half n := by
  have := (half_ok h).2.2
  omega
theorem pow_one {p q n : Nat} (hp : Pow p) (hq : Pow q) (h1 : p < n) (h2 : n ≤ 2 * p) (h3 : q < n) (h4 : n ≤ 2 * q) : p = q := by
  obtain ⟨e, rfl⟩ := hp
  obtain ⟨d, rfl⟩ := hq
  have a1 : 2 ^ e < 2 ^ (d + 1) := by rw [Nat.pow_succ]; omega
  have a2 : 2 ^ d < 2 ^ (e + 1) := by rw [Nat.pow_succ]; omega
  have b1 := (Nat.pow_lt_pow_iff_right (by omega : 1 < 2)).1 a1
  have b2 := (Nat.pow_lt_pow_iff_right (by omega : 1 < 2)).1 a2
  have : e = d := by omega
  rw [this]
/-- more than half of it has the same half -/
theorem half_same {n m : Nat} (hm : 2 ≤ m) (h1 : half m < n) (h2 : n ≤ m) : half n = half m := by
  have hp := half_pos hm
  obtain ⟨a, b, c⟩ := half_ok hm
  obtain ⟨a', b', c'⟩ := half_ok (n := n) (by omega)
  exact pow_one a' a b' c' h1 (by omega)

/-- a leaf's digest, a node's -/
def leafH (s : ByteArray) : ByteArray := Plain.txt (digest (0 :: sb s))
def nodeH (a b : ByteArray) : ByteArray := Plain.txt (digest (1 :: (sb a ++ sb b)))
theorem leafH_size (s : ByteArray) : (leafH s).size = 32 := by unfold leafH; rw [txt_size, digest_len]
theorem nodeH_size (a b : ByteArray) : (nodeH a b).size = 32 := by unfold nodeH; rw [txt_size, digest_len]

/-- the root of no text, or of the first one -/
def root1 : List ByteArray → ByteArray
  | [] => Plain.txt (digest [])
  | s :: _ => leafH s
/-- the root of a list (f: more than it has) -/
def rootF : Nat → List ByteArray → ByteArray
  | 0, _ => ⟨#[]⟩
  | f + 1, l =>
    if 2 ≤ l.length then nodeH (rootF f (l.take (half l.length))) (rootF f (l.drop (half l.length)))
    else root1 l
theorem take_lt {l : List ByteArray} (h : 2 ≤ l.length) : (l.take (half l.length)).length < l.length := by
  rw [List.length_take]; have := (half_ok h).2.1; omega
theorem drop_lt {l : List ByteArray} (h : 2 ≤ l.length) : (l.drop (half l.length)).length < l.length := by
  rw [List.length_drop]; have := half_pos h; omega
theorem rootF_any : ∀ (f g : Nat) (l : List ByteArray), l.length < f → l.length < g → rootF f l = rootF g l := by
  intro f
  induction f with
  | zero => intro g l hf; omega
  | succ f ih =>
    intro g l hf hg
    cases g with
    | zero => omega
    | succ g =>
      by_cases h : 2 ≤ l.length
      · have h1 := take_lt h
        have h2 := drop_lt h
        rw [rootF, rootF, if_pos h, if_pos h, ih g (l.take (half l.length)) (by omega) (by omega), ih g (l.drop (half l.length)) (by omega) (by omega)]
      · rw [rootF, rootF, if_neg h, if_neg h]
def root (l : List ByteArray) : ByteArray := rootF (l.length + 1) l
theorem root_if (l : List ByteArray) : root l = if 2 ≤ l.length then nodeH (root (l.take (half l.length))) (root (l.drop (half l.length))) else root1 l := by
  unfold root
  by_cases h : 2 ≤ l.length
  · have h1 := take_lt h
    have h2 := drop_lt h
    rw [rootF, if_pos h, if_pos h, rootF_any l.length ((l.take (half l.length)).length + 1) (l.take (half l.length)) (by omega) (by omega), rootF_any l.length ((l.drop (half l.length)).length + 1) (l.drop (half l.length)) (by omega) (by omega)]
  · rw [rootF, if_neg h, if_neg h]
theorem root_nil : root [] = Plain.txt (digest []) := by rw [root_if]; simp [root1]
theorem root_one (s : ByteArray) : root [s] = leafH s := by rw [root_if]; simp [root1]
theorem root_more {l : List ByteArray} (h : 2 ≤ l.length) : root l = nodeH (root (l.take (half l.length))) (root (l.drop (half l.length))) := by
  rw [root_if, if_pos h]
theorem root_size (l : List ByteArray) : (root l).size = 32 := by
  by_cases h : 2 ≤ l.length
  · rw [root_more h]; exact nodeH_size _ _
  · match l, h with
    | [], _ => rw [root_nil, txt_size, digest_len]
    | [s], _ => rw [root_one]; exact leafH_size s
    | _ :: _ :: _, h => simp at h

/-- the path of the i-th (f: more than there are) -/
def pathF : Nat → List ByteArray → Nat → List ByteArray
  | 0, _, _ => []
  | f + 1, l, i =>
    if 2 ≤ l.length then
      (if i < half l.length then pathF f (l.take (half l.length)) i ++ [root (l.drop (half l.length))]
       else pathF f (l.drop (half l.length)) (i - half l.length) ++ [root (l.take (half l.length))])
    else []
theorem pathF_any : ∀ (f g : Nat) (l : List ByteArray) (i : Nat), l.length < f → l.length < g → pathF f l i = pathF g l i := by
  intro f
  induction f with
  | zero => intro g l i hf; omega
  | succ f ih =>
    intro g l i hf hg
    cases g with
    | zero => omega
    | succ g =>
      by_cases h : 2 ≤ l.length
      · have h1 := take_lt h
        have h2 := drop_lt h
        rw [pathF, pathF, if_pos h, if_pos h, ih g (l.take (half l.length)) i (by omega) (by omega), ih g (l.drop (half l.length)) (i - half l.length) (by omega) (by omega)]
      · rw [pathF, pathF, if_neg h, if_neg h]
def path (l : List ByteArray) (i : Nat) : List ByteArray := pathF (l.length + 1) l i
theorem path_if (l : List ByteArray) (i : Nat) : path l i = if 2 ≤ l.length then
      (if i < half l.length then path (l.take (half l.length)) i ++ [root (l.drop (half l.length))]
       else path (l.drop (half l.length)) (i - half l.length) ++ [root (l.take (half l.length))])
    else [] := by
  unfold path
  by_cases h : 2 ≤ l.length
  · have h1 := take_lt h
    have h2 := drop_lt h
    rw [pathF, if_pos h, if_pos h, pathF_any l.length ((l.take (half l.length)).length + 1) (l.take (half l.length)) i (by omega) (by omega), pathF_any l.length ((l.drop (half l.length)).length + 1) (l.drop (half l.length)) (i - half l.length) (by omega) (by omega)]
  · rw [pathF, if_neg h, if_neg h]
theorem path_no {l : List ByteArray} (h : ¬ 2 ≤ l.length) (i : Nat) : path l i = [] := by rw [path_if, if_neg h]
theorem path_low {l : List ByteArray} (h : 2 ≤ l.length) {i : Nat} (hi : i < half l.length) : path l i = path (l.take (half l.length)) i ++ [root (l.drop (half l.length))] := by
  rw [path_if, if_pos h, if_pos hi]
theorem path_high {l : List ByteArray} (h : 2 ≤ l.length) {i : Nat} (hi : ¬ i < half l.length) : path l i = path (l.drop (half l.length)) (i - half l.length) ++ [root (l.take (half l.length))] := by
  rw [path_if, if_pos h, if_neg hi]

/-- how many parts a path has (f: more than n) -/
def depF : Nat → Nat → Nat → Nat
  | 0, _, _ => 0
  | f + 1, i, n => if 2 ≤ n then (if i < half n then depF f i (half n) + 1 else depF f (i - half n) (n - half n) + 1) else 0
theorem depF_any : ∀ (f g i n : Nat), n < f → n < g → depF f i n = depF g i n := by
  intro f
  induction f with
  | zero => intro g i n hf; omega
  | succ f ih =>
    intro g i n hf hg
    cases g with
    | zero => omega
    | succ g =>
      by_cases h : 2 ≤ n
      · have h1 := (half_ok h).2.1
        have h2 := half_pos h
        rw [depF, depF, if_pos h, if_pos h, ih g i (half n) (by omega) (by omega), ih g (i - half n) (n - half n) (by omega) (by omega)]
      · rw [depF, depF, if_neg h, if_neg h]
def dep (i n : Nat) : Nat := depF (n + 1) i n
theorem dep_if (i n : Nat) : dep i n = if 2 ≤ n then (if i < half n then dep i (half n) + 1 else dep (i - half n) (n - half n) + 1) else 0 := by
  unfold dep
  by_cases h : 2 ≤ n
  · have h1 := (half_ok h).2.1
    have h2 := half_pos h
    rw [depF, if_pos h, if_pos h, depF_any n (half n + 1) i (half n) (by omega) (by omega), depF_any n (n - half n + 1) (i - half n) (n - half n) (by omega) (by omega)]
  · rw [depF, if_neg h, if_neg h]
theorem path_len (l : List ByteArray) : ∀ i : Nat, (path l i).length = dep i l.length := by
  refine lenRec (P := fun l => ∀ i : Nat, (path l i).length = dep i l.length) ?_ l
  intro l ih i
  by_cases h : 2 ≤ l.length
  · have hk := half_ok h
    have hp := half_pos h
    rw [dep_if, if_pos h]
    by_cases hi : i < half l.length
    · rw [path_low h hi, if_pos hi, List.length_append, ih (l.take (half l.length)) (take_lt h) i, List.length_take, Nat.min_eq_left (by omega)]
      rfl
    · rw [path_high h hi, if_neg hi, List.length_append, ih (l.drop (half l.length)) (drop_lt h) (i - half l.length), List.length_drop]
      rfl
  · rw [path_no h, dep_if, if_neg h]
    rfl

/-- the root over a path; false: it has not as many as it must (f: more than n) -/
def upF : Nat → ByteArray → Nat → Nat → List ByteArray → ByteArray × Bool
  | 0, _, _, _, _ => (⟨#[]⟩, false)
  | f + 1, leaf, i, n, p =>
    if 2 ≤ n then
      (match p.getLast? with
       | none => (⟨#[]⟩, false)
       | some last =>
         if i < half n then (nodeH (upF f leaf i (half n) p.dropLast).1 last, (upF f leaf i (half n) p.dropLast).2)
         else (nodeH last (upF f leaf (i - half n) (n - half n) p.dropLast).1, (upF f leaf (i - half n) (n - half n) p.dropLast).2))
    else (leaf, p.isEmpty)
theorem upF_any : ∀ (f g : Nat) (leaf : ByteArray) (i n : Nat) (p : List ByteArray), n < f → n < g → upF f leaf i n p = upF g leaf i n p := by
  intro f
  induction f with
  | zero => intro g leaf i n p hf; omega
  | succ f ih =>
    intro g leaf i n p hf hg
    cases g with
    | zero => omega
    | succ g =>
      by_cases h : 2 ≤ n
      · have h1 := (half_ok h).2.1
        have h2 := half_pos h
        rw [upF, upF, if_pos h, if_pos h, ih g leaf i (half n) p.dropLast (by omega) (by omega), ih g leaf (i - half n) (n - half n) p.dropLast (by omega) (by omega)]
      · rw [upF, upF, if_neg h, if_neg h]
def up (leaf : ByteArray) (i n : Nat) (p : List ByteArray) : ByteArray × Bool := upF (n + 1) leaf i n p
theorem up_if (leaf : ByteArray) (i n : Nat) (p : List ByteArray) : up leaf i n p = if 2 ≤ n then
      (match p.getLast? with
       | none => (⟨#[]⟩, false)
       | some last =>
         if i < half n then (nodeH (up leaf i (half n) p.dropLast).1 last, (up leaf i (half n) p.dropLast).2)
         else (nodeH last (up leaf (i - half n) (n - half n) p.dropLast).1, (up leaf (i - half n) (n - half n) p.dropLast).2))
    else (leaf, p.isEmpty) := by
  unfold up
  by_cases h : 2 ≤ n
  · have h1 := (half_ok h).2.1
    have h2 := half_pos h
    rw [upF, if_pos h, if_pos h, upF_any n (half n + 1) leaf i (half n) p.dropLast (by omega) (by omega), upF_any n (n - half n + 1) leaf (i - half n) (n - half n) p.dropLast (by omega) (by omega)]
  · rw [upF, if_neg h, if_neg h]
theorem up_no {n : Nat} (h : ¬ 2 ≤ n) (leaf : ByteArray) (i : Nat) (p : List ByteArray) : up leaf i n p = (leaf, p.isEmpty) := by rw [up_if, if_neg h]
theorem up_nil {n : Nat} (h : 2 ≤ n) (leaf : ByteArray) (i : Nat) : up leaf i n [] = (⟨#[]⟩, false) := by rw [up_if, if_pos h]; rfl
theorem up_low {n i : Nat} (h : 2 ≤ n) (hi : i < half n) (leaf last : ByteArray) (p : List ByteArray) : up leaf i n (p ++ [last]) = (nodeH (up leaf i (half n) p).1 last, (up leaf i (half n) p).2) := by
  rw [up_if, if_pos h, List.getLast?_append]
  simp only [List.getLast?_singleton, Option.some_or, List.dropLast_concat, if_pos hi]
theorem up_high {n i : Nat} (h : 2 ≤ n) (hi : ¬ i < half n) (leaf last : ByteArray) (p : List ByteArray) : up leaf i n (p ++ [last]) = (nodeH last (up leaf (i - half n) (n - half n) p).1, (up leaf (i - half n) (n - half n) p).2) := by
  rw [up_if, if_pos h, List.getLast?_append]
  simp only [List.getLast?_singleton, Option.some_or, List.dropLast_concat, if_neg hi]
theorem up_len (n : Nat) : ∀ (leaf : ByteArray) (i : Nat) (p : List ByteArray), (up leaf i n p).2 = decide (p.length = dep i n) := by
  refine natRec (P := fun n => ∀ (leaf : ByteArray) (i : Nat) (p : List ByteArray), (up leaf i n p).2 = decide (p.length = dep i n)) ?_ n
  intro n ih leaf i p
  by_cases h : 2 ≤ n
  · have hk := half_ok h
    have hp := half_pos h
    rcases List.eq_nil_or_concat p with rfl | ⟨q, last, rfl⟩
    · rw [up_nil h, dep_if, if_pos h]
      symm
      apply decide_eq_false
      split <;> simp
    · rw [List.concat_eq_append, dep_if, if_pos h]
      by_cases hi : i < half n
      · rw [up_low h hi, if_pos hi, ih (half n) (by omega) leaf i q]
        simp
      · rw [up_high h hi, if_neg hi, ih (n - half n) (by omega) leaf (i - half n) q]
        simp
  · rw [up_no h, dep_if, if_neg h]
    cases p <;> simp
/-- each text has its path -/
theorem up_path (l : List ByteArray) : ∀ (i : Nat) (s : ByteArray) (hs : l[i]? = some s), up (leafH s) i l.length (path l i) = (root l, true) := by
  refine lenRec (P := fun l => ∀ (i : Nat) (s : ByteArray) (hs : l[i]? = some s), up (leafH s) i l.length (path l i) = (root l, true)) ?_ l
  intro l ih i s hs
  have hil : i < l.length := (List.getElem?_eq_some_iff.1 hs).1
  by_cases h : 2 ≤ l.length
  · have hk := half_ok h
    have hp := half_pos h
    by_cases hi : i < half l.length
    · have e := ih (l.take (half l.length)) (take_lt h) i s (by rw [List.getElem?_take_of_lt hi]; exact hs)
      rw [List.length_take, Nat.min_eq_left (by omega)] at e
      rw [path_low h hi, up_low h hi, e, root_more h]
    · have e := ih (l.drop (half l.length)) (drop_lt h) (i - half l.length) s (by rw [List.getElem?_drop]; rw [show half l.length + (i - half l.length) = i by omega]; exact hs)
      rw [List.length_drop] at e
      rw [path_high h hi, up_high h hi, e, root_more h]
  · rw [path_no h, up_no h]
    match l, h with
    | [], _ => simp at hil
    | [t], _ =>
      have : i = 0 := by simp at hil; omega
      subst this
      simp at hs
      subst hs
      rw [root_one]
      rfl
    | _ :: _ :: _, h => simp at h

/-- what tells that a list came of its first n (f: more than it has) -/
def growF : Nat → List ByteArray → Nat → Bool → List ByteArray
  | 0, _, _, _ => []
  | f + 1, l, n, whole =>
    if n = l.length then (if whole = true then [] else [root l])
    else if 2 ≤ l.length then
      (if n ≤ half l.length then growF f (l.take (half l.length)) n whole ++ [root (l.drop (half l.length))]
       else growF f (l.drop (half l.length)) (n - half l.length) false ++ [root (l.take (half l.length))])
    else []
theorem growF_any : ∀ (f g : Nat) (l : List ByteArray) (n : Nat) (whole : Bool), l.length < f → l.length < g → growF f l n whole = growF g l n whole := by
  intro f
  induction f with
  | zero => intro g l n whole hf; omega
  | succ f ih =>
    intro g l n whole hf hg
    cases g with
    | zero => omega
    | succ g =>
      by_cases h : 2 ≤ l.length
      · have h1 := take_lt h
        have h2 := drop_lt h
        rw [growF, growF, if_pos h, if_pos h, ih g (l.take (half l.length)) n whole (by omega) (by omega), ih g (l.drop (half l.length)) (n - half l.length) false (by omega) (by omega)]
      · rw [growF, growF, if_neg h, if_neg h]
def grow (l : List ByteArray) (n : Nat) (whole : Bool) : List ByteArray := growF (l.length + 1) l n whole
theorem grow_if (l : List ByteArray) (n : Nat) (whole : Bool) : grow l n whole = if n = l.length then (if whole = true then [] else [root l])
    else if 2 ≤ l.length then
      (if n ≤ half l.length then grow (l.take (half l.length)) n whole ++ [root (l.drop (half l.length))]
       else grow (l.drop (half l.length)) (n - half l.length) false ++ [root (l.take (half l.length))])
    else [] := by
  unfold grow
  by_cases h : 2 ≤ l.length
  · have h1 := take_lt h
    have h2 := drop_lt h
    rw [growF, if_pos h, if_pos h, growF_any l.length ((l.take (half l.length)).length + 1) (l.take (half l.length)) n whole (by omega) (by omega), growF_any l.length ((l.drop (half l.length)).length + 1) (l.drop (half l.length)) (n - half l.length) false (by omega) (by omega)]
  · rw [growF, if_neg h, if_neg h]
theorem grow_all (l : List ByteArray) (whole : Bool) : grow l l.length whole = if whole = true then [] else [root l] := by rw [grow_if, if_pos rfl]
theorem grow_low {l : List ByteArray} (h : 2 ≤ l.length) {n : Nat} (hn : n ≠ l.length) (hi : n ≤ half l.length) (whole : Bool) : grow l n whole = grow (l.take (half l.length)) n whole ++ [root (l.drop (half l.length))] := by
  rw [grow_if, if_neg hn, if_pos h, if_pos hi]
theorem grow_high {l : List ByteArray} (h : 2 ≤ l.length) {n : Nat} (hn : n ≠ l.length) (hi : ¬ n ≤ half l.length) (whole : Bool) : grow l n whole = grow (l.drop (half l.length)) (n - half l.length) false ++ [root (l.take (half l.length))] := by
  rw [grow_if, if_neg hn, if_pos h, if_neg hi]
theorem grow_pos {l : List ByteArray} {n : Nat} (h1 : 1 ≤ n) (hn : n < l.length) (whole : Bool) : 0 < (grow l n whole).length := by
  have h : 2 ≤ l.length := by omega
  by_cases hi : n ≤ half l.length
  · rw [grow_low h (by omega) hi]; simp
  · rw [grow_high h (by omega) hi]; simp

/-- how many parts it has (f: more than m) -/
def gdepF : Nat → Nat → Nat → Bool → Nat
  | 0, _, _, _ => 0
  | f + 1, n, m, whole =>
    if n = m then (if whole = true then 0 else 1)
    else if 2 ≤ m then (if n ≤ half m then gdepF f n (half m) whole + 1 else gdepF f (n - half m) (m - half m) false + 1) else 0
theorem gdepF_any : ∀ (f g n m : Nat) (whole : Bool), m < f → m < g → gdepF f n m whole = gdepF g n m whole := by
  intro f
  induction f with
  | zero => intro g n m whole hf; omega
  | succ f ih =>
    intro g n m whole hf hg
    cases g with
    | zero => omega
    | succ g =>
      by_cases h : 2 ≤ m
      · have h1 := (half_ok h).2.1
        have h2 := half_pos h
        rw [gdepF, gdepF, if_pos h, if_pos h, ih g n (half m) whole (by omega) (by omega), ih g (n - half m) (m - half m) false (by omega) (by omega)]
      · rw [gdepF, gdepF, if_neg h, if_neg h]
def gdep (n m : Nat) (whole : Bool) : Nat := gdepF (m + 1) n m whole
theorem gdep_if (n m : Nat) (whole : Bool) : gdep n m whole = if n = m then (if whole = true then 0 else 1)
    else if 2 ≤ m then (if n ≤ half m then gdep n (half m) whole + 1 else gdep (n - half m) (m - half m) false + 1) else 0 := by
  unfold gdep
  by_cases h : 2 ≤ m
  · have h1 := (half_ok h).2.1
    have h2 := half_pos h
    rw [gdepF, if_pos h, if_pos h, gdepF_any m (half m + 1) n (half m) whole (by omega) (by omega), gdepF_any m (m - half m + 1) (n - half m) (m - half m) false (by omega) (by omega)]
  · rw [gdepF, if_neg h, if_neg h]
theorem grow_len (l : List ByteArray) : ∀ (n : Nat) (whole : Bool), (grow l n whole).length = gdep n l.length whole := by
  refine lenRec (P := fun l => ∀ (n : Nat) (whole : Bool), (grow l n whole).length = gdep n l.length whole) ?_ l
  intro l ih n whole
  by_cases hn : n = l.length
  · subst hn
    rw [grow_all, gdep_if, if_pos rfl]
    cases whole <;> rfl
  · by_cases h : 2 ≤ l.length
    · have hk := half_ok h
      have hp := half_pos h
      rw [gdep_if, if_neg hn, if_pos h]
      by_cases hi : n ≤ half l.length
      · rw [grow_low h hn hi, if_pos hi, List.length_append, ih (l.take (half l.length)) (take_lt h) n whole, List.length_take, Nat.min_eq_left (by omega)]
        rfl
      · rw [grow_high h hn hi, if_neg hi, List.length_append, ih (l.drop (half l.length)) (drop_lt h) (n - half l.length) false, List.length_drop]
        rfl
    · rw [grow_if, if_neg hn, if_neg h, gdep_if, if_neg hn, if_neg h]
      rfl

/-- the roots of the first n and of all m over such a path; false: it has not as many as it must (f: more than m) -/
def grownF : Nat → Nat → Nat → Bool → ByteArray → List ByteArray → ByteArray × ByteArray × Bool
  | 0, _, _, _, _, _ => (⟨#[]⟩, ⟨#[]⟩, false)
  | f + 1, n, m, whole, a, p =>
    if n = m then
      (if whole = true then (a, a, p.isEmpty)
       else if p.length = 1 then (p.headD ⟨#[]⟩, p.headD ⟨#[]⟩, true) else (⟨#[]⟩, ⟨#[]⟩, false))
    else if 2 ≤ m then
      (match p.getLast? with
       | none => (⟨#[]⟩, ⟨#[]⟩, false)
       | some last =>
         if n ≤ half m then ((grownF f n (half m) whole a p.dropLast).1, nodeH (grownF f n (half m) whole a p.dropLast).2.1 last, (grownF f n (half m) whole a p.dropLast).2.2)
         else (nodeH last (grownF f (n - half m) (m - half m) false a p.dropLast).1, nodeH last (grownF f (n - half m) (m - half m) false a p.dropLast).2.1, (grownF f (n - half m) (m - half m) false a p.dropLast).2.2))
    else (⟨#[]⟩, ⟨#[]⟩, false)
theorem grownF_any : ∀ (f g n m : Nat) (whole : Bool) (a : ByteArray) (p : List ByteArray), m < f → m < g → grownF f n m whole a p = grownF g n m whole a p := by
  intro f
  induction f with
  | zero => intro g n m whole a p hf; omega
  | succ f ih =>
    intro g n m whole a p hf hg
    cases g with
    | zero => omega
    | succ g =>
      by_cases h : 2 ≤ m
      · have h1 := (half_ok h).2.1
        have h2 := half_pos h
        rw [grownF, grownF, if_pos h, if_pos h, ih g n (half m) whole a p.dropLast (by omega) (by omega), ih g (n - half m) (m - half m) false a p.dropLast (by omega) (by omega)]
      · rw [grownF, grownF, if_neg h, if_neg h]
def grown (n m : Nat) (whole : Bool) (a : ByteArray) (p : List ByteArray) : ByteArray × ByteArray × Bool := grownF (m + 1) n m whole a p
theorem grown_if (n m : Nat) (whole : Bool) (a : ByteArray) (p : List ByteArray) : grown n m whole a p = if n = m then
      (if whole = true then (a, a, p.isEmpty)
       else if p.length = 1 then (p.headD ⟨#[]⟩, p.headD ⟨#[]⟩, true) else (⟨#[]⟩, ⟨#[]⟩, false))
    else if 2 ≤ m then
      (match p.getLast? with
       | none => (⟨#[]⟩, ⟨#[]⟩, false)
       | some last =>
         if n ≤ half m then ((grown n (half m) whole a p.dropLast).1, nodeH (grown n (half m) whole a p.dropLast).2.1 last, (grown n (half m) whole a p.dropLast).2.2)
         else (nodeH last (grown (n - half m) (m - half m) false a p.dropLast).1, nodeH last (grown (n - half m) (m - half m) false a p.dropLast).2.1, (grown (n - half m) (m - half m) false a p.dropLast).2.2))
    else (⟨#[]⟩, ⟨#[]⟩, false) := by
  unfold grown
  by_cases h : 2 ≤ m
  · have h1 := (half_ok h).2.1
    have h2 := half_pos h
    rw [grownF, if_pos h, if_pos h, grownF_any m (half m + 1) n (half m) whole a p.dropLast (by omega) (by omega), grownF_any m (m - half m + 1) (n - half m) (m - half m) false a p.dropLast (by omega) (by omega)]
  · rw [grownF, if_neg h, if_neg h]
theorem grown_whole (m : Nat) (a : ByteArray) (p : List ByteArray) : grown m m true a p = (a, a, p.isEmpty) := by rw [grown_if, if_pos rfl, if_pos rfl]
theorem grown_one (m : Nat) (a x : ByteArray) : grown m m false a [x] = (x, x, true) := by rw [grown_if, if_pos rfl, if_neg (by simp)]; simp
theorem grown_not {m : Nat} (a : ByteArray) {p : List ByteArray} (hp : p.length ≠ 1) : grown m m false a p = (⟨#[]⟩, ⟨#[]⟩, false) := by
  rw [grown_if, if_pos rfl, if_neg (by simp), if_neg hp]
theorem grown_nil {n m : Nat} (hn : n ≠ m) (h : 2 ≤ m) (whole : Bool) (a : ByteArray) : grown n m whole a [] = (⟨#[]⟩, ⟨#[]⟩, false) := by rw [grown_if, if_neg hn, if_pos h]; rfl
theorem grown_low {n m : Nat} (hn : n ≠ m) (h : 2 ≤ m) (hi : n ≤ half m) (whole : Bool) (a last : ByteArray) (p : List ByteArray) :
    grown n m whole a (p ++ [last]) = ((grown n (half m) whole a p).1, nodeH (grown n (half m) whole a p).2.1 last, (grown n (half m) whole a p).2.2) := by
  rw [grown_if, if_neg hn, if_pos h, List.getLast?_append]
  simp only [List.getLast?_singleton, Option.some_or, List.dropLast_concat, if_pos hi]
theorem grown_high {n m : Nat} (hn : n ≠ m) (h : 2 ≤ m) (hi : ¬ n ≤ half m) (whole : Bool) (a last : ByteArray) (p : List ByteArray) :
    grown n m whole a (p ++ [last]) = (nodeH last (grown (n - half m) (m - half m) false a p).1, nodeH last (grown (n - half m) (m - half m) false a p).2.1, (grown (n - half m) (m - half m) false a p).2.2) := by
  rw [grown_if, if_neg hn, if_pos h, List.getLast?_append]
  simp only [List.getLast?_singleton, Option.some_or, List.dropLast_concat, if_neg hi]
theorem grown_len (m : Nat) : ∀ (n : Nat) (whole : Bool) (a : ByteArray) (p : List ByteArray), 1 ≤ n → n ≤ m → (grown n m whole a p).2.2 = decide (p.length = gdep n m whole) := by
  refine natRec (P := fun m => ∀ (n : Nat) (whole : Bool) (a : ByteArray) (p : List ByteArray), 1 ≤ n → n ≤ m → (grown n m whole a p).2.2 = decide (p.length = gdep n m whole)) ?_ m
  intro m ih n whole a p h1 hnm
  by_cases hn : n = m
  · subst hn
    rw [gdep_if, if_pos rfl]
    cases whole
    · by_cases hp : p.length = 1
      · obtain ⟨x, rfl⟩ := List.length_eq_one_iff.1 hp
        rw [grown_one]
        simp
      · rw [grown_not a hp]
        simp [hp]
    · rw [grown_whole]
      cases p <;> simp
  · have h : 2 ≤ m := by omega
    have hk := half_ok h
    have hp := half_pos h
    rcases List.eq_nil_or_concat p with rfl | ⟨q, last, rfl⟩
    · rw [grown_nil hn h, gdep_if, if_neg hn, if_pos h]
      symm
      apply decide_eq_false
      split <;> simp
    · rw [List.concat_eq_append, gdep_if, if_neg hn, if_pos h]
      by_cases hi : n ≤ half m
      · rw [grown_low hn h hi, if_pos hi, ih (half m) (by omega) n whole a q h1 hi]
        simp
      · rw [grown_high hn h hi, if_neg hi, ih (m - half m) (by omega) (n - half m) false a q (by omega) (by omega)]
        simp
/-- each beginning has its path -/
theorem grown_grow (l : List ByteArray) : ∀ (n : Nat) (whole : Bool) (a : ByteArray) (h1 : 1 ≤ n) (hn : n ≤ l.length) (ha : whole = true → a = root (l.take n)),
    grown n l.length whole a (grow l n whole) = (root (l.take n), root l, true) := by
  refine lenRec (P := fun l => ∀ (n : Nat) (whole : Bool) (a : ByteArray) (h1 : 1 ≤ n) (hn : n ≤ l.length) (ha : whole = true → a = root (l.take n)), grown n l.length whole a (grow l n whole) = (root (l.take n), root l, true)) ?_ l
  intro l ih n whole a h1 hn ha
  by_cases he : n = l.length
  · subst he
    rw [grow_all, List.take_length] at *
    cases whole
    · exact grown_one _ _ _
    · rw [if_pos rfl, grown_whole, ha rfl]
      rfl
  · have h : 2 ≤ l.length := by omega
    have hk := half_ok h
    have hp := half_pos h
    by_cases hi : n ≤ half l.length
    · have ht : (l.take (half l.length)).take n = l.take n := by rw [List.take_take, Nat.min_eq_left hi]
      have e := ih (l.take (half l.length)) (take_lt h) n whole a h1 (by rw [List.length_take]; omega) (by rw [ht]; exact ha)
      rw [List.length_take, Nat.min_eq_left (by omega), ht] at e
      rw [grow_low h he hi, grown_low he h hi, e, root_more h]
    · have e := ih (l.drop (half l.length)) (drop_lt h) (n - half l.length) false a (by omega) (by rw [List.length_drop]; omega) (fun h => by cases h)
      rw [List.length_drop] at e
      rw [grow_high h he hi, grown_high he h hi, e]
      have hln : (l.take n).length = n := by rw [List.length_take]; omega
      have hh := half_same h (by omega) hn
      have e2 : root (l.take n) = nodeH (root (l.take (half l.length))) (root ((l.drop (half l.length)).take (n - half l.length))) := by
        rw [root_more (by rw [hln]; omega), hln, hh, List.take_take, Nat.min_eq_left (by omega), List.drop_take]
      rw [e2, root_more h]

end Go.Proofs.YtbopliahafkecaaGreatDoor.Tr

/- Chapter 6, the specification's side: leaves, nodes, roots. -/
namespace Go.Proofs.YtbopliahafkecaaGreatDoor.Tr
open Go.RowKit Go.Proofs.YtbopliahafkecaaGreatDoor.Mem Go.Proofs.YtbopliahafkecaaGreatDoor.Laws Go.Proofs.YtbopliahafkecaaGreatDoor.Bytes Go.Proofs.YtbopliahafkecaaGreatDoor.Sha
set_option linter.unusedVariables false
set_option linter.unusedSimpArgs false

theorem oneB (w : World) (lo : Nat) (x : Int) (h : lo ≤ w.heap.size) : Own (w.alloc (.cells #[.int .u8 x] 5)) lo (w.alloc (.cells #[.int .u8 x] 5)).heap.size 5 (.slice (some ⟨w.heap.size, 0, none⟩) 1 1) (bs [x]) := by
  exact Own.of (World.ownsRow_lit (e := 5) (base := lo) (size := 1) w #[.int .u8 x] 1 h (by unfold maxLen; omega) rfl)

set_option maxRecDepth 1000000 in
set_option maxHeartbeats 1000000 in
theorem half_spec (w : World) (n : Nat) (hn : n ≤ 1000000000000) : Calls Tryz.prog 77 #[.int .i64 (n : Int)] w fun e w' => e = .returned (.int .i64 (half n : Int)) ∧ w' = w := by
  go_enter Tryz.func77, Tryz.ntmps77
  go_wp2
  go_loopw [3] (fun i wr => ∃ k f : Nat, i = .int .i64 (k : Int) ∧ 1 ≤ k ∧ k ≤ n + 1 ∧ n ≤ k + f ∧ Hid (halfF f k n = half n) ∧ wr = w) (fun i _ => n + 1 - (intOf i).toNat)
  case atStart => exact ⟨1, n, rfl, Nat.le_refl _, by omega, by omega, rfl, rfl⟩
  case round =>
    obtain ⟨k, f, rfl, hk1, hk2, hf, HH, rfl⟩ := hrel
    by_cases hlt : 2 * k < n
    · obtain ⟨g, rfl⟩ : ∃ g, f = g + 1 := ⟨f - 1, by omega⟩
      have HN : Hid (halfF g (2 * k) n = half n) := by
        show _ = _
        rw [← HH.out, halfF, if_pos hlt]
      have hlt' : (2 : Int) * (k : Int) < (n : Int) := by omega
      clear HH
      go_wp2
      go_roundw
      case rel => exact ⟨2 * k, g, by go_num, by omega, by omega, by omega, HN, by trivial⟩
      case measure => simp [intOf]; omega
    · have HN : Hid (half n = k) := by
        show _ = _
        rw [← HH.out]
        cases f with
        | zero => rfl
        | succ f => rw [halfF, if_neg hlt]
      have hlt' : ¬ (2 : Int) * (k : Int) < (n : Int) := by omega
      clear HH
      go_wp2
      go_ret
      exact ⟨by rw [HN.out]; rfl, rfl⟩

set_option maxRecDepth 1000000 in
set_option maxHeartbeats 1000000 in
theorem leaf_spec (w : World) (s : ByteArray) (hs : s.size ≤ 100000000000) : Calls Tryz.prog 76 #[.string s] w fun e w' => e = .returned (.string (leafH s)) ∧ Below w.heap.size w w' := by
  obtain ⟨i0, hi, hz0, hz1, hz2⟩ := info_parts info5
  have ho := oneB w w.heap.size 0 (Nat.le_refl _)
  have hB : Below w.heap.size w (w.alloc (.cells #[.int .u8 0] 5)) := (Below.refl _ _).alloc (Nat.le_refl _) _
  have hsz : w.heap.size ≤ (w.alloc (.cells #[.int .u8 0] 5)).heap.size := by simp
  have c1 : ([0] : List Int).length + s.size ≤ 140737488355328 := by simp; omega
  go_enter Tryz.func76, Tryz.ntmps76
  go_wp2_with (at_builtin; go_must (refine wpl_str _ rfl (.tmp 3) (.tmp 4) 22 9 rfl 5 i0 Tryz.underlying22 Tryz.underlying9 hi hz0 hz1 hz2 w.heap.size _ _ rfl ho s rfl c1 hsz ?_))
  intro v2 w2 ho2 hb2
  have q := digest_spec w2 v2 ([0] ++ sb s) ho2.sl (Byt.app (by intro x hx; simp at hx; omega) (sb_byt s)) (by rw [List.length_append, sb_len]; simp; omega)
  have HB2 : Hid (Below w.heap.size w w2) := hB.trans hb2
  clear ho ho2 hb2 hB
  go_wp2_with fail
  refine q.mono ?_
  rintro e w3 ⟨rfl, b3⟩
  have hB3 : Below w.heap.size w w3 := HB2.out.trans (b3.mono HB2.out.size)
  go_wp2
  go_ret
  exact ⟨rfl, hB3⟩

set_option maxRecDepth 1000000 in
set_option maxHeartbeats 1000000 in
theorem node_spec (w : World) (a b : ByteArray) (ha : a.size ≤ 100000000000) (hb : b.size ≤ 100000000000) : Calls Tryz.prog 78 #[.string a, .string b] w fun e w' => e = .returned (.string (nodeH a b)) ∧ Below w.heap.size w w' := by
  obtain ⟨i0, hi, hz0, hz1, hz2⟩ := info_parts info5
  have ho := oneB w w.heap.size 1 (Nat.le_refl _)
  have hB : Below w.heap.size w (w.alloc (.cells #[.int .u8 1] 5)) := (Below.refl _ _).alloc (Nat.le_refl _) _
  have hsz : w.heap.size ≤ (w.alloc (.cells #[.int .u8 1] 5)).heap.size := by simp
  have c1 : ([1] : List Int).length + a.size ≤ 140737488355328 := by simp; omega
  have c2 : ([1] ++ sb a : List Int).length + b.size ≤ 140737488355328 := by rw [List.length_append, sb_len]; simp; omega
  go_enter Tryz.func78, Tryz.ntmps78
  go_wp2_with (at_builtin; go_must (refine wpl_str _ rfl (.tmp 5) (.tmp 6) 22 9 rfl 5 i0 Tryz.underlying22 Tryz.underlying9 hi hz0 hz1 hz2 w.heap.size _ _ rfl ho a rfl c1 hsz ?_))
  intro v2 w2 ho2 hb2
  have hsz2 := Nat.le_trans hsz hb2.size
  go_wp2_with (at_builtin; go_must (refine wpl_str _ rfl (.tmp 7) (.tmp 8) 22 9 rfl 5 i0 Tryz.underlying22 Tryz.underlying9 hi hz0 hz1 hz2 w.heap.size _ _ rfl ho2 b rfl c2 hsz2 ?_))
  intro v3 w3 ho3 hb3
  have q := digest_spec w3 v3 ([1] ++ sb a ++ sb b) ho3.sl (Byt.app (Byt.app (by intro x hx; simp at hx; omega) (sb_byt a)) (sb_byt b)) (by rw [List.length_append, List.length_append, sb_len, sb_len]; simp; omega)
  have HB3 : Hid (Below w.heap.size w w3) := (hB.trans hb2).trans hb3
  clear ho2 ho3 hb2 hb3 hB
  go_wp2_with fail
  refine q.mono ?_
  rintro e w4 ⟨rfl, b4⟩
  have hB4 : Below w.heap.size w w4 := HB3.out.trans (b4.mono HB3.out.size)
  go_wp2
  go_ret
  exact ⟨rfl, hB4⟩

end Go.Proofs.YtbopliahafkecaaGreatDoor.Tr

/- Chapter 6, the specification's side: roots. -/
namespace Go.Proofs.YtbopliahafkecaaGreatDoor.Tr
open Go.RowKit Go.Proofs.YtbopliahafkecaaGreatDoor.Mem Go.Proofs.YtbopliahafkecaaGreatDoor.Laws Go.Proofs.YtbopliahafkecaaGreatDoor.Bytes Go.Proofs.YtbopliahafkecaaGreatDoor.Sha
set_option linter.unusedVariables false
set_option linter.unusedSimpArgs false

/-- the end of a slice -/
theorem slBack {w : World} {b off n cap : Nat} {cs : List Value} (h : Sl w (.slice (some ⟨b, off, none⟩) n cap) cs) (k : Nat) (hk : k < cs.length) : Sl w (.slice (some ⟨b, off + k, none⟩) (n - k) (cap - k)) (cs.drop k) := by
  obtain ⟨ao', cap', he, hc, hn, hr⟩ := h
  simp only [Value.slice.injEq] at he
  obtain ⟨rfl, rfl, rfl⟩ := he
  have hl : (cs.drop k).length = cs.length - k := by simp
  obtain ⟨b', off', he', hcell⟩ := hr (by omega)
  simp only [Option.some.injEq, Addr.mk.injEq] at he'
  obtain ⟨rfl, rfl, _⟩ := he'
  refine ⟨some ⟨b, off + k, none⟩, cap - k, by rw [hl], by rw [hl]; omega, fun h => (by cases h), fun hp => ⟨b, off + k, rfl, fun j hj => ?_⟩⟩
  rw [Nat.add_assoc, hcell (k + j) (by rw [hl] at hj; omega), List.getElem?_drop]
theorem slForm {w : World} {v : Value} {cs : List Value} (h : Sl w v cs) (hp : 0 < cs.length) : ∃ b off cap, v = .slice (some ⟨b, off, none⟩) cs.length cap ∧ cs.length ≤ cap := by
  obtain ⟨ao, cap, rfl, hc, _, hr⟩ := h
  obtain ⟨b, off, rfl, _⟩ := hr hp
  exact ⟨b, off, cap, rfl, hc⟩
theorem ss_take (l : List ByteArray) (k : Nat) : (ss l).take k = ss (l.take k) := by simp [ss]
theorem ss_drop (l : List ByteArray) (k : Nat) : (ss l).drop k = ss (l.drop k) := by simp [ss]

set_option maxRecDepth 1000000 in
set_option maxHeartbeats 2000000 in
theorem root_any : ∀ (N : Nat) (l : List ByteArray), l.length ≤ N → ∀ (w : World) (v : Value), Sl w v (ss l) → l.length ≤ 1000000 → (∀ s ∈ l, s.size ≤ 10000000000) →
    Calls Tryz.prog 46 #[v] w fun e w' => e = .returned (.string (root l)) ∧ Below w.heap.size w w' := by
  intro N
  induction N with
  | zero =>
    intro l hN w v h hl hz
    obtain rfl : l = [] := List.eq_nil_of_length_eq_zero (by omega)
    have HN : Hid (root [] = Plain.txt (digest [])) := root_nil
    obtain ⟨ao, cap, rfl, _⟩ := h
    have q := digest_spec (w.alloc (.cells #[] 5)) (.slice (some ⟨w.heap.size, 0, none⟩) 0 0) [] (Own.emptyB w w.heap.size (Nat.le_refl _)).sl (by intro x hx; cases hx) (by simp)
    have hB : Below w.heap.size w (w.alloc (.cells #[] 5)) := (Below.refl _ _).alloc (Nat.le_refl _) _
    rw [ss_len]
    go_enter Tryz.func46, Tryz.ntmps46
    go_wp2_with fail
    refine q.mono ?_
    rintro e w1 ⟨rfl, b1⟩
    have hB1 : Below w.heap.size w w1 := hB.trans (b1.mono hB.size)
    go_wp2
    go_ret
    exact ⟨by rw [HN.out]; rfl, hB1⟩
  | succ N ih =>
    intro l hN w v h hl hz
    by_cases h0 : l.length ≤ N
    · exact ih l h0 w v h hl hz
    obtain ⟨b, off, cap, rfl, hcap⟩ := slForm h (by rw [ss_len]; omega)
    rw [ss_len] at h hcap ⊢
    by_cases h1 : l.length = 1
    · obtain ⟨s, rfl⟩ := List.length_eq_one_iff.1 h1
      have HN : Hid (root [s] = leafH s) := root_one s
      have q := leaf_spec w s (by have := hz s (by simp); omega)
      have c0 : w.cell? ⟨b, off, none⟩ = some (.string s) := by
        obtain ⟨ao', c', he, _, _, hr⟩ := h
        simp only [Value.slice.injEq] at he
        obtain ⟨rfl, _, rfl⟩ := he
        obtain ⟨b', off', he', hcell⟩ := hr (by simp [ss])
        simp only [Option.some.injEq, Addr.mk.injEq] at he'
        obtain ⟨rfl, rfl, _⟩ := he'
        have := hcell 0 (by simp [ss])
        simpa [ss] using this
      clear ih h hz hN h0 h1
      go_enter Tryz.func46, Tryz.ntmps46
      go_wp2_with fail
      refine q.mono ?_
      rintro e w1 ⟨rfl, b1⟩
      go_wp2
      go_ret
      exact ⟨by rw [HN.out]; rfl, b1⟩
    · have h2 : 2 ≤ l.length := by omega
      have hk := half_ok h2
      have hp := half_pos h2
      have HN : Hid (root l = nodeH (root (l.take (half l.length))) (root (l.drop (half l.length)))) := root_more h2
      have q0 := half_spec w l.length (by omega)
      have z1 := root_size (l.take (half l.length))
      have z2 := root_size (l.drop (half l.length))
      obtain ⟨k, hkk⟩ : ∃ k, half l.length = k := ⟨_, rfl⟩
      rw [hkk] at hk hp HN q0 z1 z2
      obtain ⟨_, hk1, hk2⟩ := hk
      clear hkk
      have s1 : Sl w (.slice (some ⟨b, off, none⟩) k cap) (ss (l.take k)) := by rw [← ss_take]; exact h.front k (by rw [ss_len]; omega)
      have s2 : Sl w (.slice (some ⟨b, off + k, none⟩) (l.length - k) (cap - k)) (ss (l.drop k)) := by rw [← ss_drop]; exact slBack h k (by rw [ss_len]; omega)
      have q1 : ∀ W, Below w.heap.size w W → _ := fun W hW => ih (l.take k) (by rw [List.length_take]; omega) W _ (s1.later hW) (by rw [List.length_take]; omega) (fun s hs => hz s (List.mem_of_mem_take hs))
      have q2 : ∀ W, Below w.heap.size w W → _ := fun W hW => ih (l.drop k) (by rw [List.length_drop]; omega) W _ (s2.later hW) (by rw [List.length_drop]; omega) (fun s hs => hz s (List.mem_of_mem_drop hs))
      obtain ⟨x, hx⟩ : ∃ x, root (l.take k) = x := ⟨_, rfl⟩
      obtain ⟨y, hy⟩ : ∃ x, root (l.drop k) = x := ⟨_, rfl⟩
      rw [hx, hy] at HN
      rw [hx] at z1
      rw [hy] at z2
      simp only [hx] at q1
      simp only [hy] at q2
      have q3 : ∀ W, _ := fun W => node_spec W x y (by omega) (by omega)
      have d0 : ((l.length : Int) == 0) = false := by rw [beq_eq_false_iff_ne]; omega
      have d1 : ((l.length : Int) == 1) = false := by rw [beq_eq_false_iff_ne]; omega
      have v1 : (k : Int) ≤ (l.length : Int) := by omega
      have v2 : (k : Int) ≤ (cap : Int) := by omega
      have v3 : (l.length : Int) ≤ (cap : Int) := by omega
      have vne : ¬ cap = k := by omega
      have hB0 : Below w.heap.size w w := Below.refl _ _
      clear ih h hz hN h0 h1 hx hy s1 s2
      go_enter Tryz.func46, Tryz.ntmps46
      go_wp2_with (go_at_call 77; refine q0.mono ?_; rintro e w1 ⟨rfl, hw1⟩; have hw1 := hw1.symm; subst hw1)
      refine wp_region_held_drew (S := fun _ => True) (by kernel_rfl) trivial (fun hHeld => ?_)
      (refine wpAnyH_take (i := 0) (v := ?v0x1) rfl (by kernel_rfl) (by kernel_rfl) (by kernel_rfl) (fun _ _ _ h => h) (Or.inl ⟨by rfl, ?hy0x1⟩) (by assumption) ?rest0x1; case hy0x1 => (intro w hSw; (try dsimp only at hSw); go_split_ands; go_simp; (try with_reducible rfl)))
      try simp only [Act.put, List.setIfInBounds_toArray, List.set_cons_zero, List.set_cons_succ, List.getElem_toArray, List.getElem_cons_zero, List.getElem_cons_succ]
      (refine wpAnyH_take (i := 1) (v := ?v1x2) rfl (by kernel_rfl) (by kernel_rfl) (by kernel_rfl) (fun _ _ _ h => h) (Or.inl ⟨by rfl, ?hy1x2⟩) (by assumption) ?rest1x2; case hy1x2 => (intro w hSw; (try dsimp only at hSw); go_split_ands; go_simp; (try with_reducible rfl)))
      try simp only [Act.put, List.setIfInBounds_toArray, List.set_cons_zero, List.set_cons_succ, List.getElem_toArray, List.getElem_cons_zero, List.getElem_cons_succ]
      (refine wpAnyH_take (i := 2) (v := ?v2x3) rfl (by kernel_rfl) (by kernel_rfl) (by kernel_rfl) (fun _ _ _ h => h) (Or.inl ⟨by rfl, ?hy2x3⟩) (by assumption) ?rest2x3; case hy2x3 => (intro w hSw; (try dsimp only at hSw); go_split_ands; go_simp; (try with_reducible rfl)))
      try simp only [Act.put, List.setIfInBounds_toArray, List.set_cons_zero, List.set_cons_succ, List.getElem_toArray, List.getElem_cons_zero, List.getElem_cons_succ]
      (refine wpAnyH_take (i := 4) (v := ?v4x4) rfl (by kernel_rfl) (by kernel_rfl) (by kernel_rfl) (fun _ _ _ h => h) (Or.inl ⟨by rfl, ?hy4x4⟩) (by assumption) ?rest4x4; case hy4x4 => (intro w hSw; (try dsimp only at hSw); go_split_ands; go_simp; (try with_reducible rfl)))
      try simp only [Act.put, List.setIfInBounds_toArray, List.set_cons_zero, List.set_cons_succ, List.getElem_toArray, List.getElem_cons_zero, List.getElem_cons_succ]
      (refine wpAnyH_take (i := 5) (v := ?v5x5) rfl (by kernel_rfl) (by kernel_rfl) (by kernel_rfl) (fun _ _ _ h => h) (Or.inl ⟨by rfl, ?hy5x5⟩) (by assumption) ?rest5x5; case hy5x5 => (intro w hSw; (try dsimp only at hSw); go_split_ands; go_simp; (try with_reducible rfl)))
      try simp only [Act.put, List.setIfInBounds_toArray, List.set_cons_zero, List.set_cons_succ, List.getElem_toArray, List.getElem_cons_zero, List.getElem_cons_succ]
      (refine wpAnyH_take (i := 6) (v := ?v6x6) rfl (by kernel_rfl) (by kernel_rfl) (by kernel_rfl) (fun _ _ _ h => h) (Or.inl ⟨by rfl, ?hy6x6⟩) (by assumption) ?rest6x6; case hy6x6 => (intro w hSw; (try dsimp only at hSw); go_split_ands; go_simp; (try with_reducible rfl)))
      try simp only [Act.put, List.setIfInBounds_toArray, List.set_cons_zero, List.set_cons_succ, List.getElem_toArray, List.getElem_cons_zero, List.getElem_cons_succ]
      refine wpAnyH_ready (rs := [3]) (by kernel_rfl) (by simp) ?_
      refine AllReadyH.cons rfl (fun K hK => ?_) AllReadyH.nil
      go_simp
      refine (q1 _ (Below.drew hB0)).mono ?_
      rintro e w2 ⟨rfl, b2⟩
      refine hK.out _ _ trivial (fun hHeld => ?_)
      clear hK K
      try simp only [Act.put, List.setIfInBounds_toArray, List.set_cons_zero, List.set_cons_succ, List.getElem_toArray, List.getElem_cons_zero, List.getElem_cons_succ]
      have B2 : Below w.heap.size w w2 := (Below.drew hB0).trans b2
      refine wpAnyH_ready (rs := [7]) (by kernel_rfl) (by simp) ?_
      refine AllReadyH.cons rfl (fun K hK => ?_) AllReadyH.nil
      go_simp
      refine (q2 _ B2).mono ?_
      rintro e w3 ⟨rfl, b3⟩
      refine hK.out _ _ trivial (fun hHeld => ?_)
      clear hK K
      try simp only [Act.put, List.setIfInBounds_toArray, List.set_cons_zero, List.set_cons_succ, List.getElem_toArray, List.getElem_cons_zero, List.getElem_cons_succ]
      have B3 : Below w.heap.size w w3 := B2.trans (b3.mono B2.size)
      refine wpAnyH_ready (rs := [8]) (by kernel_rfl) (by simp) ?_
      refine AllReadyH.cons rfl (fun K hK => ?_) AllReadyH.nil
      go_simp
      refine (q3 _).mono ?_
      rintro e w4 ⟨rfl, b4⟩
      refine hK.out _ _ trivial (fun hHeld => ?_)
      clear hK K
      try simp only [Act.put, List.setIfInBounds_toArray, List.set_cons_zero, List.set_cons_succ, List.getElem_toArray, List.getElem_cons_zero, List.getElem_cons_succ]
      have B4 : Below w.heap.size w w4 := B3.trans (b4.mono B3.size)
      (refine wpAnyH_take (i := 9) (v := ?v9x7) rfl (by kernel_rfl) (by kernel_rfl) (by kernel_rfl) (fun _ _ _ h => h) (Or.inl ⟨by rfl, ?hy9x7⟩) (by assumption) ?rest9x7; case hy9x7 => (intro w hSw; (try dsimp only at hSw); go_split_ands; go_simp; (try with_reducible rfl)))
      try simp only [Act.put, List.setIfInBounds_toArray, List.set_cons_zero, List.set_cons_succ, List.getElem_toArray, List.getElem_cons_zero, List.getElem_cons_succ]
      refine wpAnyH_done (by kernel_rfl) ?_ _
      clear hHeld
      go_wp2
      go_ret
      exact ⟨by rw [HN.out]; rfl, B4⟩

end Go.Proofs.YtbopliahafkecaaGreatDoor.Tr

/- Chapter 6, the specification's side: paths. -/
namespace Go.Proofs.YtbopliahafkecaaGreatDoor.Tr
open Go.RowKit Go.Proofs.YtbopliahafkecaaGreatDoor.Mem Go.Proofs.YtbopliahafkecaaGreatDoor.Laws Go.Proofs.YtbopliahafkecaaGreatDoor.Bytes Go.Proofs.YtbopliahafkecaaGreatDoor.Sha
set_option linter.unusedVariables false
set_option linter.unusedSimpArgs false

theorem emptyT (w : World) (lo : Nat) (h : lo ≤ w.heap.size) : Own (w.alloc (.cells #[] 9)) lo (w.alloc (.cells #[] 9)).heap.size 9 (.slice (some ⟨w.heap.size, 0, none⟩) 0 0) (ss []) :=
  Own.of (World.ownsRow_lit w #[] 0 h (Nat.zero_le _) rfl)
theorem oneT (s : ByteArray) : ∀ u ∈ [Value.string s], u.oneCell' = true := by
  intro u hu
  simp at hu
  subst hu
  rfl
theorem info9t : (Tryz.prog.info? 9).map (fun i => (i.zero, i.size, i.bytes)) = some (some (.string ⟨#[]⟩), 1, 16) := by kernel_rfl
theorem dep_le (n : Nat) : ∀ i, dep i n ≤ n := by
  refine natRec (P := fun n => ∀ i, dep i n ≤ n) ?_ n
  intro n ih i
  by_cases h : 2 ≤ n
  · have hk := half_ok h
    have hp := half_pos h
    rw [dep_if, if_pos h]
    split
    · have := ih (half n) (by omega) i; omega
    · have := ih (n - half n) (by omega) (i - half n); omega
  · rw [dep_if, if_neg h]; omega

end Go.Proofs.YtbopliahafkecaaGreatDoor.Tr

/- Chapter 6, the specification's side: what tells that a list came of its beginning. -/
namespace Go.Proofs.YtbopliahafkecaaGreatDoor.Tr
open Go.RowKit Go.Proofs.YtbopliahafkecaaGreatDoor.Mem Go.Proofs.YtbopliahafkecaaGreatDoor.Laws Go.Proofs.YtbopliahafkecaaGreatDoor.Bytes Go.Proofs.YtbopliahafkecaaGreatDoor.Sha
set_option linter.unusedVariables false
set_option linter.unusedSimpArgs false

theorem oneS (w : World) (lo : Nat) (x : ByteArray) (h : lo ≤ w.heap.size) : Own (w.alloc (.cells #[.string x] 9)) lo (w.alloc (.cells #[.string x] 9)).heap.size 9 (.slice (some ⟨w.heap.size, 0, none⟩) 1 1) (ss [x]) := by
  exact Own.of (World.ownsRow_lit (e := 9) (base := lo) (size := 1) w #[.string x] 1 h (by unfold maxLen; omega) rfl)
theorem gdep_le (m : Nat) : ∀ n whole, gdep n m whole ≤ m + 1 := by
  refine natRec (P := fun m => ∀ n whole, gdep n m whole ≤ m + 1) ?_ m
  intro m ih n whole
  rw [gdep_if]
  split
  · split <;> omega
  · split
    · rename_i h
      have hk := half_ok h
      have hp := half_pos h
      split
      · have := ih (half m) (by omega) n whole; omega
      · have := ih (m - half m) (by omega) (n - half m) false; omega
    · omega

end Go.Proofs.YtbopliahafkecaaGreatDoor.Tr

/- Chapter 6, the specification's side: roots over a path. -/
namespace Go.Proofs.YtbopliahafkecaaGreatDoor.Tr
open Go.RowKit Go.Proofs.YtbopliahafkecaaGreatDoor.Mem Go.Proofs.YtbopliahafkecaaGreatDoor.Laws Go.Proofs.YtbopliahafkecaaGreatDoor.Bytes Go.Proofs.YtbopliahafkecaaGreatDoor.Sha
set_option linter.unusedVariables false
set_option linter.unusedSimpArgs false

/-- a slice of texts that ends with one: where that lies, and what is ahead of it -/
theorem slLast {w : World} {v : Value} {q : List ByteArray} {last : ByteArray} (h : Sl w v (ss (q ++ [last]))) : ∃ b off cap L, v = .slice (some ⟨b, off, none⟩) L cap ∧ L ≤ q.length + 1 ∧ q.length + 1 ≤ L ∧ L ≤ cap ∧
    w.cell? ⟨b, off + (L - 1), none⟩ = some (.string last) ∧ Sl w (.slice (some ⟨b, off, none⟩) (L - 1) cap) (ss q) := by
  have hl : (ss (q ++ [last])).length = q.length + 1 := by rw [ss_len, List.length_append]; rfl
  obtain ⟨b, off, cap, rfl, hcap⟩ := slForm h (by omega)
  refine ⟨b, off, cap, (ss (q ++ [last])).length, rfl, by omega, by omega, hcap, ?_, ?_⟩
  · obtain ⟨ao', c', he, _, _, hr⟩ := h
    simp only [Value.slice.injEq] at he
    obtain ⟨rfl, _, rfl⟩ := he
    obtain ⟨b', off', he', hcell⟩ := hr (by omega)
    simp only [Option.some.injEq, Addr.mk.injEq] at he'
    obtain ⟨rfl, rfl, _⟩ := he'
    rw [hcell _ (by omega), hl]
    simp [ss]
  · have := h.front ((ss (q ++ [last])).length - 1) (by omega)
    rw [ss_take, show (q ++ [last]).take ((ss (q ++ [last])).length - 1) = q by rw [hl]; simp] at this
    exact this

theorem up_size {leaf : ByteArray} {n i : Nat} {p : List ByteArray} (h : leaf.size ≤ 10000000000) : (up leaf i n p).1.size ≤ 10000000000 := by
  by_cases h2 : 2 ≤ n
  · rcases List.eq_nil_or_concat p with rfl | ⟨q, last, rfl⟩
    · rw [up_nil h2]; exact Nat.zero_le _
    · rw [List.concat_eq_append]
      by_cases hi : i < half n
      · rw [up_low h2 hi]; simp only [nodeH_size]; omega
      · rw [up_high h2 hi]; simp only [nodeH_size]; omega
  · rw [up_no h2]; exact h

end Go.Proofs.YtbopliahafkecaaGreatDoor.Tr

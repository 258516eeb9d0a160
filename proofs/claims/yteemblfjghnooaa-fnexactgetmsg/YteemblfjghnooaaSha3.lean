/- Contract of the specification's block: 64 rounds over the words, and the sums with what was before. -/
import Derived.Test.YteemblfjghnooaaSha2
namespace Go.Proofs.Yteemblfjghnooaa.Sha
open Go.RowKit Go.Proofs.Yteemblfjghnooaa.Mem Go.Proofs.Yteemblfjghnooaa.Laws Go.Proofs.Yteemblfjghnooaa.Bytes
set_option linter.unusedVariables false
set_option linter.unusedSimpArgs false

def big1 (e : Nat) : Nat := (turn e 6 ^^^ turn e 11) ^^^ turn e 25
def big0 (a : Nat) : Nat := (turn a 2 ^^^ turn a 13) ^^^ turn a 22
def ch (e f g : Nat) : Nat := (e &&& f) ^^^ ((4294967295 ^^^ e) &&& g)
def maj (a b c : Nat) : Nat := ((a &&& b) ^^^ (a &&& c)) ^^^ (b &&& c)
def t1 (e f g h k x : Nat) : Nat := h + big1 e + ch e f g + k + x
def t2 (a b c : Nat) : Nat := big0 a + maj a b c
def rnd8 (a b c d e f g h k x : Nat) : List Nat := [(t1 e f g h k x + t2 a b c) % 4294967296, a, b, c, (d + t1 e f g h k x) % 4294967296, e, f, g]
def rnds : List Nat → List Nat → List Nat → List Nat
  | k :: ks, x :: xs, [a, b, c, d, e, f, g, h] => rnds ks xs (rnd8 a b c d e f g h k x)
  | _, _, v => v
/-- a block's eight words out of those before -/
def blk (H : List Nat) (ys : List Int) (K : List Nat) : List Nat := List.zipWith (fun x y => (x + y) % 4294967296) (rnds K (words ys) H) H

theorem xl {a b : Nat} (ha : a < 4294967296) (hb : b < 4294967296) : a ^^^ b < 4294967296 := Nat.xor_lt_two_pow (n := 32) ha hb
theorem al {a b : Nat} (hb : b < 4294967296) : a &&& b < 4294967296 := Nat.lt_of_le_of_lt Nat.and_le_right hb
theorem big1_lt (e : Nat) : big1 e < 4294967296 := xl (xl (turn_lt _ _) (turn_lt _ _)) (turn_lt _ _)
theorem big0_lt (a : Nat) : big0 a < 4294967296 := xl (xl (turn_lt _ _) (turn_lt _ _)) (turn_lt _ _)
theorem ch_lt {e f g : Nat} (hf : f < 4294967296) (hg : g < 4294967296) : ch e f g < 4294967296 := xl (al hf) (al hg)
theorem maj_lt {a b c : Nat} (hb : b < 4294967296) (hc : c < 4294967296) : maj a b c < 4294967296 := xl (xl (al hb) (al hc)) (al hc)

theorem xb {a b : Nat} (ha : a < 4294967296) (hb : b < 4294967296) : bits .xor .i64 (a : Int) (b : Int) = ((a ^^^ b : Nat) : Int) := xor_nat (by omega) (by omega)
theorem ab {a b : Nat} (ha : a < 4294967296) (hb : b < 4294967296) : bits .and .i64 (a : Int) (b : Int) = ((a &&& b : Nat) : Int) := and_nat (by omega) (by omega)
theorem big1_bits (e : Nat) : bits .xor .i64 (bits .xor .i64 ((turn e 6 : Nat) : Int) ((turn e 11 : Nat) : Int)) ((turn e 25 : Nat) : Int) = ((big1 e : Nat) : Int) := by
  rw [xb (turn_lt _ _) (turn_lt _ _), xb (xl (turn_lt _ _) (turn_lt _ _)) (turn_lt _ _)]; rfl
theorem big0_bits (a : Nat) : bits .xor .i64 (bits .xor .i64 ((turn a 2 : Nat) : Int) ((turn a 13 : Nat) : Int)) ((turn a 22 : Nat) : Int) = ((big0 a : Nat) : Int) := by
  rw [xb (turn_lt _ _) (turn_lt _ _), xb (xl (turn_lt _ _) (turn_lt _ _)) (turn_lt _ _)]; rfl
theorem ch_bits {e f g : Nat} (he : e < 4294967296) (hf : f < 4294967296) (hg : g < 4294967296) : bits .xor .i64 (bits .and .i64 (e : Int) (f : Int)) (bits .and .i64 (bits .xor .i64 4294967295 (e : Int)) (g : Int)) = ((ch e f g : Nat) : Int) := by
  have e0 : (4294967295 : Int) = ((4294967295 : Nat) : Int) := rfl
  rw [e0, xb (by omega) he, ab he hf, ab (xl (by omega) he) hg, xb (al hf) (al hg)]; rfl
theorem maj_bits {a b c : Nat} (ha : a < 4294967296) (hb : b < 4294967296) (hc : c < 4294967296) : bits .xor .i64 (bits .xor .i64 (bits .and .i64 (a : Int) (b : Int)) (bits .and .i64 (a : Int) (c : Int))) (bits .and .i64 (b : Int) (c : Int)) = ((maj a b c : Nat) : Int) := by
  rw [ab ha hb, ab ha hc, ab hb hc, xb (al hb) (al hc), xb (xl (al hb) (al hc)) (al hc)]; rfl

/-- the cells of eight words -/
def At8 (w : World) (g : Nat) (a b c d e f q h : Nat) : Prop :=
  w.cell? ⟨g, 0, none⟩ = some (.int .i64 (a : Int)) ∧ w.cell? ⟨g, 1, none⟩ = some (.int .i64 (b : Int)) ∧ w.cell? ⟨g, 2, none⟩ = some (.int .i64 (c : Int)) ∧ w.cell? ⟨g, 3, none⟩ = some (.int .i64 (d : Int)) ∧
  w.cell? ⟨g, 4, none⟩ = some (.int .i64 (e : Int)) ∧ w.cell? ⟨g, 5, none⟩ = some (.int .i64 (f : Int)) ∧ w.cell? ⟨g, 6, none⟩ = some (.int .i64 (q : Int)) ∧ w.cell? ⟨g, 7, none⟩ = some (.int .i64 (h : Int))

theorem at8 {w : World} {g : Nat} {a b c d e f q h : Nat} (hc : ∀ j, j < (ns [a, b, c, d, e, f, q, h]).length → w.cell? ⟨g, j, none⟩ = (ns [a, b, c, d, e, f, q, h])[j]?) : At8 w g a b c d e f q h := by
  refine ⟨?_, ?_, ?_, ?_, ?_, ?_, ?_, ?_⟩
  · exact hc 0 (by simp [ns])
  · exact hc 1 (by simp [ns])
  · exact hc 2 (by simp [ns])
  · exact hc 3 (by simp [ns])
  · exact hc 4 (by simp [ns])
  · exact hc 5 (by simp [ns])
  · exact hc 6 (by simp [ns])
  · exact hc 7 (by simp [ns])

/-- ONE ROUND, as the walk meets it: what the new eight words come to. -/
theorem rnd_own {W : World} {lo : Nat} {a b c d e f q h k x : Nat} {z0 z4 : Int} (h0 : z0 = (((t1 e f q h k x + t2 a b c) % 4294967296 : Nat) : Int)) (h4 : z4 = (((d + t1 e f q h k x) % 4294967296 : Nat) : Int)) (hlo : lo ≤ W.heap.size) :
    Own (W.alloc (.cells #[.int .i64 z0, .int .i64 (a : Int), .int .i64 (b : Int), .int .i64 (c : Int), .int .i64 z4, .int .i64 (e : Int), .int .i64 (f : Int), .int .i64 (q : Int)] 3)) lo
      (W.alloc (.cells #[.int .i64 z0, .int .i64 (a : Int), .int .i64 (b : Int), .int .i64 (c : Int), .int .i64 z4, .int .i64 (e : Int), .int .i64 (f : Int), .int .i64 (q : Int)] 3)).heap.size 3 (.slice (some ⟨W.heap.size, 0, none⟩) 8 8) (ns (rnd8 a b c d e f q h k x)) := by
  subst h0
  subst h4
  exact Own.of (World.ownsRow_lit W _ 8 hlo (by unfold maxLen; omega) rfl)

theorem kcell {w : World} {b off : Nat} {L : List Nat} (h : ∀ j, j < (ns L).length → w.cell? ⟨b, off + j, none⟩ = (ns L)[j]?) (j : Nat) (hj : j < L.length) : w.cell? ⟨b, off + j, none⟩ = some (.int .i64 ((L.getD j 0 : Nat) : Int)) := by
  rw [h j (by rw [ns_len]; exact hj)]
  simp [ns, List.getD, hj]
theorem drop_nat {L : List Nat} {k : Nat} (h : k < L.length) : L.drop k = L.getD k 0 :: L.drop (k + 1) := by
  rw [List.drop_eq_getElem_cons h]; simp [List.getD, h]

theorem ext_len (n : Nat) : ∀ l, (ext n l).length = l.length + n := by
  induction n with
  | zero => intro l; rfl
  | succ n ih => intro l; rw [ext, ih]; simp; omega
theorem words_len (ys : List Int) : (words ys).length = 64 := by unfold words; rw [ext_len]; simp
theorem ext_lt (n : Nat) : ∀ l, (∀ x ∈ l, x < 4294967296) → ∀ x ∈ ext n l, x < 4294967296 := by
  induction n with
  | zero => intro l h; exact h
  | succ n ih =>
    intro l h
    rw [ext]
    refine ih _ (fun x hx => ?_)
    rcases List.mem_append.1 hx with hx | hx
    · exact h x hx
    · rw [List.mem_singleton] at hx; rw [hx]; exact Nat.mod_lt _ (by decide)
theorem words_lt {ys : List Int} (h : Byt ys) : ∀ x ∈ words ys, x < 4294967296 := by
  unfold words
  refine ext_lt 48 _ (fun x hx => ?_)
  obtain ⟨j, _, rfl⟩ := List.mem_map.1 hx
  exact wd_lt h j

theorem zip_step (Z H : List Nat) (m : Nat) (hZ : Z.length = 8) (hH : H.length = 8) (hm : m < 8) :
    ((List.zipWith (fun x y => (x + y) % 4294967296) Z H).take m ++ Z.drop m).set m ((Z.getD m 0 + H.getD m 0) % 4294967296) = (List.zipWith (fun x y => (x + y) % 4294967296) Z H).take (m + 1) ++ Z.drop (m + 1) := by
  apply List.ext_getElem?
  intro j
  have hl : ((List.zipWith (fun x y => (x + y) % 4294967296) Z H).take m).length = m := by simp; omega
  have hl2 : ((List.zipWith (fun x y => (x + y) % 4294967296) Z H).take (m + 1)).length = m + 1 := by simp; omega
  by_cases hj : j = m
  · subst hj
    rw [List.getElem?_set_self (by simp; omega), List.getElem?_append_left (by omega), List.getElem?_take, if_pos (by omega), List.getElem?_zipWith]
    simp [List.getD, hZ, hH, hm]
  · rw [List.getElem?_set_ne (by omega)]
    by_cases hlt : j < m
    · rw [List.getElem?_append_left (by omega), List.getElem?_append_left (by omega), List.getElem?_take, if_pos hlt, List.getElem?_take, if_pos (by omega)]
    · rw [List.getElem?_append_right (by omega), List.getElem?_append_right (by omega), hl, hl2, List.getElem?_drop, List.getElem?_drop]
      congr 1
      omega

set_option maxRecDepth 1000000 in
set_option maxHeartbeats 4000000 in
theorem block_spec (w : World) (bh offh caph : Nat) (b off cap : Nat) (bk offk capk : Nat) (a0 b0 c0 d0 e0 f0 q0 h0 : Nat) (ys : List Int) (K : List Nat)
    (hH : ∀ x ∈ [a0, b0, c0, d0, e0, f0, q0, h0], x < 4294967296) (hhc : ∀ j, j < (ns [a0, b0, c0, d0, e0, f0, q0, h0]).length → w.cell? ⟨bh, offh + j, none⟩ = (ns [a0, b0, c0, d0, e0, f0, q0, h0])[j]?) (hch : 8 ≤ caph)
    (hy : ys.length = 64) (hcap : 64 ≤ cap) (hby : Byt ys) (hcells : ∀ j, j < ys.length → w.cell? ⟨b, off + j, none⟩ = (bs ys)[j]?)
    (hK : K.length = 64) (hKb : ∀ x ∈ K, x < 4294967296) (hKc : ∀ j, j < (ns K).length → w.cell? ⟨bk, offk + j, none⟩ = (ns K)[j]?) (hck : 64 ≤ capk) :
    Calls Try.prog 77 #[.slice (some ⟨bh, offh, none⟩) 8 caph, .slice (some ⟨b, off, none⟩) 64 cap, .slice (some ⟨bk, offk, none⟩) 64 capk] w fun e w' => ∃ v', e = .returned v' ∧ Own w' w.heap.size w'.heap.size 3 v' (ns (blk [a0, b0, c0, d0, e0, f0, q0, h0] ys K)) ∧ Below w.heap.size w w' := by
  obtain ⟨i0, hi, hz0, hz1, hz2⟩ := info_parts info3
  have hlh : bh < w.heap.size := World.block_lt_of_cell? w ⟨bh, offh + 0, none⟩ (kcell hhc 0 (by simp))
  have hlk : bk < w.heap.size := World.block_lt_of_cell? w ⟨bk, offk + 0, none⟩ (kcell hKc 0 (by omega))
  go_enter Try.func77, Try.ntmps77
  go_wp2_with fail
  refine (words_spec w b off cap ys hy hcap hby hcells).mono ?_
  rintro e w1 ⟨vw, rfl, ow1, b1⟩
  have s1 := b1.size
  have hWl := words_len ys
  have hWb := words_lt hby
  obtain ⟨W, hW⟩ : ∃ W, W = words ys := ⟨_, rfl⟩
  rw [← hW] at hWl hWb ow1
  obtain ⟨gw, capw, rfl, hgw1, hgw2, hcapw, hcw⟩ := Own.form ow1 (by rw [ns_len, hWl]; omega)
  rw [ns_len, hWl] at hcapw
  rw [ns_len, hWl]
  have slh : Sl w1 (.slice (some ⟨bh, offh, none⟩) 8 caph) (ns [a0, b0, c0, d0, e0, f0, q0, h0]) := by
    refine Sl.later ?_ b1
    exact ⟨some ⟨bh, offh, none⟩, caph, rfl, hch, fun h => (by cases h), fun _ => ⟨bh, offh, rfl, hhc⟩⟩
  have slh2 : ∀ o, Sl (w1.alloc o) (.slice (some ⟨bh, offh, none⟩) 8 caph) (ns [a0, b0, c0, d0, e0, f0, q0, h0]) := fun o => slh.later ((Below.refl _ _).alloc (Nat.le_refl _) o)
  have c2 : (ns []).length + (ns [a0, b0, c0, d0, e0, f0, q0, h0]).length ≤ maxLen := by simp [ns]; unfold maxLen; omega
  have c3 : ((ns []).length + (ns [a0, b0, c0, d0, e0, f0, q0, h0]).length) * 8 ≤ 140737488355328 := by simp [ns]
  have c4 : ∀ o, w1.heap.size ≤ (w1.alloc o).heap.size := fun o => by simp
  go_wp2_with (at_builtin; go_must (refine wpl_app _ rfl (.tmp 21) (.tmp 22) 54 rfl 3 i0 (.int .i64 0) 8 Try.underlying54 hi hz0 hz1 hz2 rfl w1.heap.size _ (ns []) rfl (Own.emptyN w1 _ (Nat.le_refl _)) _ rfl (ns [a0, b0, c0, d0, e0, f0, q0, h0]) (slh2 _) (ns_one _) c2 c3 (c4 _) ?_))
  intro v2 w2 ho2 hb2 hg2
  have hb2' : Below w1.heap.size w1 w2 := ((Below.refl _ _).alloc (Nat.le_refl _) _).trans hb2
  rw [← ns_app, List.nil_append] at ho2
  have HW : Hid (W = words ys ∧ W.length = 64 ∧ (∀ x ∈ W, x < 4294967296) ∧ K.length = 64 ∧ (∀ x ∈ K, x < 4294967296)) := ⟨hW, hWl, hWb, hK, hKb⟩
  clear c2 c3 c4 slh2 hg2 hb2 ow1 hcells hby hW hWb hKb
  go_wp2
  go_loopw [8, 9] (fun v i wr => ∃ (n a b c d e f q h : Nat), n ≤ 64 ∧ i = .int .i64 (n : Int) ∧ (∀ x ∈ [a, b, c, d, e, f, q, h], x < 4294967296) ∧ rnds (K.drop n) (W.drop n) [a, b, c, d, e, f, q, h] = rnds K W [a0, b0, c0, d0, e0, f0, q0, h0] ∧ Own wr w1.heap.size wr.heap.size 3 v (ns [a, b, c, d, e, f, q, h]) ∧ Below w1.heap.size w1 wr) (fun _ i _ => 64 - (intOf i).toNat)
  case atStart => exact ⟨0, a0, b0, c0, d0, e0, f0, q0, h0, by omega, rfl, hH, rfl, ho2, hb2'⟩
  case round =>
    obtain ⟨n, a, b, c, d, e, f, q, h, hn, rfl, hb8, hE0, ho, hb⟩ := hrel
    have HE : Hid (rnds (K.drop n) (W.drop n) [a, b, c, d, e, f, q, h] = rnds K W [a0, b0, c0, d0, e0, f0, q0, h0]) := hE0
    have hsz := hb.size
    have hbw : Below w.heap.size w wr := b1.trans (hb.mono s1)
    clear hE0 ho2 hb2'
    by_cases hlt : n < 64
    · obtain ⟨g, capv, rfl, hg1, hg2, hcapv, hcv⟩ := Own.form ho (by simp [ns])
      obtain ⟨k0, k1, k2, k3, k4, k5, k6, k7⟩ := at8 hcv
      have hcapv8 : 8 ≤ capv := by simpa [ns] using hcapv
      have hlen8 : (ns [a, b, c, d, e, f, q, h]).length = 8 := by simp [ns]
      rw [hlen8] at ho
      rw [hlen8]
      have la : a < 4294967296 := hb8 a (by simp)
      have lb : b < 4294967296 := hb8 b (by simp)
      have lc : c < 4294967296 := hb8 c (by simp)
      have ld : d < 4294967296 := hb8 d (by simp)
      have le : e < 4294967296 := hb8 e (by simp)
      have lf : f < 4294967296 := hb8 f (by simp)
      have lq : q < 4294967296 := hb8 q (by simp)
      have lh : h < 4294967296 := hb8 h (by simp)
      have kk : wr.cell? ⟨bk, offk + n, none⟩ = some (.int .i64 ((K.getD n 0 : Nat) : Int)) := by
        rw [hbw.cell (p := ⟨bk, offk + n, none⟩) hlk]; exact kcell hKc n (by omega)
      have kw : wr.cell? ⟨gw, n, none⟩ = some (.int .i64 ((W.getD n 0 : Nat) : Int)) := by
        rw [hb.cell (p := ⟨gw, n, none⟩) hgw2]; exact ns_cell hcw n (by omega)
      have lk : K.getD n 0 < 4294967296 := getD_lt HW.out.2.2.2.2 n
      have lw : W.getD n 0 < 4294967296 := getD_lt HW.out.2.2.1 n
      have HR : Hid (rnds (K.drop (n + 1)) (W.drop (n + 1)) (rnd8 a b c d e f q h (K.getD n 0) (W.getD n 0)) = rnds K W [a0, b0, c0, d0, e0, f0, q0, h0]) := by
        show _ = _
        rw [← HE.out, drop_nat (L := K) (k := n) (by omega), drop_nat (L := W) (k := n) (by omega), rnds]
      obtain ⟨kn, ekn⟩ : ∃ z, K.getD n 0 = z := ⟨_, rfl⟩
      obtain ⟨wn, ewn⟩ : ∃ z, W.getD n 0 = z := ⟨_, rfl⟩
      rw [ekn] at kk lk HR
      rw [ewn] at kw lw HR
      clear ekn ewn hcv hcapv hlen8 HE hb8 hWl hK hcw hKc hhc slh hH
      have x1 := big1_bits e
      have x2 := ch_bits le lf lq
      have x3 := big0_bits a
      have x4 := maj_bits la lb lc
      have m1 := big1_lt e
      have m2 := ch_lt (e := e) lf lq
      have m3 := big0_lt a
      have m4 := maj_lt (a := a) lb lc
      have p6 : ∀ w, _ := fun w => turn_at w e 6 6 rfl le (by omega) (by omega)
      have p11 : ∀ w, _ := fun w => turn_at w e 11 11 rfl le (by omega) (by omega)
      have p25 : ∀ w, _ := fun w => turn_at w e 25 25 rfl le (by omega) (by omega)
      have p2 : ∀ w, _ := fun w => turn_at w a 2 2 rfl la (by omega) (by omega)
      have p13 : ∀ w, _ := fun w => turn_at w a 13 13 rfl la (by omega) (by omega)
      have p22 : ∀ w, _ := fun w => turn_at w a 22 22 rfl la (by omega) (by omega)
      have z0 : (0 : Int) ≤ (n : Int) := by omega
      have z1 : (n : Int) < 64 := by omega
      go_wp2_with fail
      refine (p6 _).mono ?_
      rintro e w' ⟨rfl, rfl⟩
      go_wp2_with fail
      refine (p11 _).mono ?_
      rintro e w' ⟨rfl, rfl⟩
      go_wp2_with fail
      refine (p25 _).mono ?_
      rintro e w' ⟨rfl, rfl⟩
      go_wp2_with fail
      go_quiet (fail)
      generalize nq = N1
      go_wp2_with fail
      go_quiet (fail)
      generalize nq = N2
      go_wp2_with fail
      refine (p2 _).mono ?_
      rintro e w' ⟨rfl, rfl⟩
      go_wp2_with fail
      refine (p13 _).mono ?_
      rintro e w' ⟨rfl, rfl⟩
      go_wp2_with fail
      refine (p22 _).mono ?_
      rintro e w' ⟨rfl, rfl⟩
      go_wp2_with fail
      go_quiet (fail)
      generalize nq = N3
      go_wp2_with fail
      clear p6 p11 p25 p2 p13 p22 x1 x2 x3 x4 kk kw
      have v1 := World.new_ne wr ⟨g, 1, none⟩ k1
      have hlo : w1.heap.size ≤ ((wr.drewN (N1 + N2 + N3)).drew).heap.size := hsz
      go_region_held3 (fun w' => w'.cell? ⟨g, 1, none⟩ = some (.int .i64 (b : Int)) ∧ w'.cell? ⟨g, 2, none⟩ = some (.int .i64 (c : Int)) ∧ w'.cell? ⟨g, 3, none⟩ = some (.int .i64 (d : Int)) ∧ w'.cell? ⟨g, 5, none⟩ = some (.int .i64 (f : Int)) ∧ w'.cell? ⟨g, 6, none⟩ = some (.int .i64 (q : Int)))
        (go_keep) (fail)
      have s1' : ((t1 e f q h kn wn + t2 a b c : Nat) : Int) = (h : Int) + (big1 e : Int) + (ch e f q : Int) + (kn : Int) + (wn : Int) + ((big0 a : Int) + (maj a b c : Int)) := by unfold t1 t2; omega
      have s2' : ((d + t1 e f q h kn wn : Nat) : Int) = (d : Int) + ((h : Int) + (big1 e : Int) + (ch e f q : Int) + (kn : Int) + (wn : Int)) := by unfold t1; omega
      have E0 : bits .and .i64 ((h : Int) + (big1 e : Int) + (ch e f q : Int) + (kn : Int) + (wn : Int) + ((big0 a : Int) + (maj a b c : Int))) 4294967295 = (((t1 e f q h kn wn + t2 a b c) % 4294967296 : Nat) : Int) := by
        rw [← s1', mask_nat (by omega)]
      have E4 : bits .and .i64 ((d : Int) + ((h : Int) + (big1 e : Int) + (ch e f q : Int) + (kn : Int) + (wn : Int))) 4294967295 = (((d + t1 e f q h kn wn) % 4294967296 : Nat) : Int) := by
        rw [← s2', mask_nat (by omega)]
      have hnew := rnd_own (W := wr.drewN (N1 + N2 + N3 + 1)) (a := a) (b := b) (c := c) (e := e) (f := f) (q := q) E0 E4 hsz
      have hbn : Below w1.heap.size w1 _ := (below_drewN hb (N1 + N2 + N3 + 1)).alloc hsz (.cells #[.int .i64 (bits .and .i64 ((h : Int) + (big1 e : Int) + (ch e f q : Int) + (kn : Int) + (wn : Int) + ((big0 a : Int) + (maj a b c : Int))) 4294967295), .int .i64 (a : Int), .int .i64 (b : Int), .int .i64 (c : Int), .int .i64 (bits .and .i64 ((d : Int) + ((h : Int) + (big1 e : Int) + (ch e f q : Int) + (kn : Int) + (wn : Int))) 4294967295), .int .i64 (e : Int), .int .i64 (f : Int), .int .i64 (q : Int)] 3)
      have hbd : ∀ x ∈ rnd8 a b c d e f q h kn wn, x < 4294967296 := by
        intro x hx
        simp only [rnd8, List.mem_cons, List.not_mem_nil, or_false] at hx
        rcases hx with rfl | rfl | rfl | rfl | rfl | rfl | rfl | rfl
        · exact Nat.mod_lt _ (by decide)
        · exact la
        · exact lb
        · exact lc
        · exact Nat.mod_lt _ (by decide)
        · exact le
        · exact lf
        · exact lq
      clear s1' s2' E0 E4 k0 k1 k2 k3 k4 k5 k6 k7 ho
      go_wp2
      go_roundw
      case rel => exact ⟨n + 1, _, a, b, c, _, e, f, q, by omega, by go_num, hbd, HR.out, hnew, hbn⟩
      case measure => simp [intOf]; omega
    · have hn64 : n = 64 := by omega
      have HZ : Hid ([a, b, c, d, e, f, q, h] = rnds K (words ys) [a0, b0, c0, d0, e0, f0, q0, h0]) := by
        have h1 := HE.out
        rw [hn64, List.drop_eq_nil_of_le (show K.length ≤ 64 by rw [HW.out.2.2.2.1]; omega), rnds, HW.out.1] at h1
        · exact h1
        · intro k ks x xs a b c d e f q h h1
          cases h1
      obtain ⟨Z, hZ⟩ : ∃ Z, Z = [a, b, c, d, e, f, q, h] := ⟨_, rfl⟩
      obtain ⟨H, hHe⟩ : ∃ H, H = [a0, b0, c0, d0, e0, f0, q0, h0] := ⟨_, rfl⟩
      have hZl : Z.length = 8 := by rw [hZ]; rfl
      have hHl : H.length = 8 := by rw [hHe]; rfl
      have hZb : ∀ x ∈ Z, x < 4294967296 := by rw [hZ]; exact hb8
      have hHb : ∀ x ∈ H, x < 4294967296 := by rw [hHe]; exact hH
      have HF : Hid (List.zipWith (fun x y => (x + y) % 4294967296) Z H = blk [a0, b0, c0, d0, e0, f0, q0, h0] ys K) := by
        show _ = _; rw [hZ, hHe, HZ.out]; rfl
      rw [← hHe] at hhc
      rw [← hZ] at ho
      obtain ⟨g, capv, rfl, hg1, hg2, hcapv, hcv⟩ := Own.form ho (by rw [ns_len, hZl]; omega)
      rw [ns_len, hZl] at ho hcapv
      rw [ns_len, hZl]
      clear HZ hZ hHe HE hb8 hH slh hcv hn64 hKc hcw
      go_wp2
      go_loopw [18] (fun i w' => ∃ (m : Nat) (L : List Nat), m ≤ 8 ∧ i = .int .i64 (m : Int) ∧ L = (List.zipWith (fun x y => (x + y) % 4294967296) Z H).take m ++ Z.drop m ∧ w'.ownsRow w1.heap.size 3 1 (.slice (some ⟨g, 0, none⟩) 8 capv) 8 (ns L) ∧ Below w1.heap.size w1 w') (fun i _ => 8 - (intOf i).toNat)
      case atStart => exact ⟨0, Z, by omega, rfl, by simp, by have := ho.1; rw [ns_len, hZl] at this; exact this, hb⟩
      case round =>
        obtain ⟨m, L, hm, rfl, hL0, hown, hbm⟩ := hrel
        have hbw2 : Below w.heap.size w wr := b1.trans (hbm.mono s1)
        have hsz2 := hbm.size
        by_cases hlt2 : m < 8
        · have hLm : L[m]? = some (Z.getD m 0) := by
            rw [hL0, List.getElem?_append_right (by simp; omega)]
            simp [List.getD, hZl, hlt2, hHl]
            rw [show m + (m - min m 8) = m by omega]
            simp [hZl, hlt2]
          have kv : wr.cell? ⟨g, m, none⟩ = some (.int .i64 ((Z.getD m 0 : Nat) : Int)) := by
            rw [hown.cellAt m (by omega)]; simp [ns, hLm]
          have kh : wr.cell? ⟨bh, offh + m, none⟩ = some (.int .i64 ((H.getD m 0 : Nat) : Int)) := by
            rw [hbw2.cell (p := ⟨bh, offh + m, none⟩) hlh]; exact kcell hhc m (by omega)
          have hf := hown.frozenAt m
          have lz : Z.getD m 0 < 4294967296 := getD_lt hZb m
          have lh2 : H.getD m 0 < 4294967296 := getD_lt hHb m
          have HN : Hid (L.set m ((Z.getD m 0 + H.getD m 0) % 4294967296) = (List.zipWith (fun x y => (x + y) % 4294967296) Z H).take (m + 1) ++ Z.drop (m + 1)) := by
            show _ = _; rw [hL0]; exact zip_step Z H m hZl hHl hlt2
          have hst := (hown.stored m (.int .i64 (((Z.getD m 0 + H.getD m 0) % 4294967296 : Nat) : Int))).1
          have hset : (ns L).set m (.int .i64 (((Z.getD m 0 + H.getD m 0) % 4294967296 : Nat) : Int)) = ns (L.set m ((Z.getD m 0 + H.getD m 0) % 4294967296)) := by simp [ns, List.map_set]
          rw [hset] at hst
          have hsum := mask_nat (a := Z.getD m 0 + H.getD m 0) (by omega)
          obtain ⟨zm, ezm⟩ : ∃ z, Z.getD m 0 = z := ⟨_, rfl⟩
          obtain ⟨hm2, ehm⟩ : ∃ z, H.getD m 0 = z := ⟨_, rfl⟩
          rw [ezm, ehm] at HN hst hsum
          rw [ezm] at kv lz
          rw [ehm] at kh lh2
          have ecast : ((zm + hm2 : Nat) : Int) = (zm : Int) + (hm2 : Int) := by omega
          rw [ecast] at hsum
          have HS : Hid _ := hst
          have z0 : (0 : Int) ≤ (m : Int) := by omega
          have z1 : (m : Int) < 8 := by omega
          have hne : ¬ bh = g := by omega
          clear hst hset ezm ehm hL0 hLm ecast hhc ho
          go_wp2
          go_region
          go_wp2
          go_roundw
          case rel => exact ⟨m + 1, L.set m ((zm + hm2) % 4294967296), by omega, by go_num, HN.out, HS.out, Below.drew (hbm.setCell (p := ⟨g, m, none⟩) hg1 _)⟩
          case measure => simp [intOf]; omega
        · go_wp2
          go_ret
          have h1 := HF.out
          rw [hL0, List.take_of_length_le (by simp; omega), List.drop_eq_nil_of_le (by omega), List.append_nil, h1] at hown
          refine ⟨_, rfl, (Own.of hown).mono s1 (Nat.le_refl _), hbw2⟩

end Go.Proofs.Yteemblfjghnooaa.Sha

/- Chapter 8: drawn lists, drawn texts. -/
import Derived.Test.YtpnmhanjibhgoaaDoorCl3
import Derived.Test.YtpnmhanjibhgoaaDoorTrD
import Derived.Test.YtpnmhanjibhgoaaDoorRec
import Derived.Test.YtpnmhanjibhgoaaDoorDraw2
namespace Go.Proofs.YtpnmhanjibhgoaaDoor.Cl
open Go.RowKit Go.Proofs.YtpnmhanjibhgoaaDoor.Mem Go.Proofs.YtpnmhanjibhgoaaDoor.Laws Go.Proofs.YtpnmhanjibhgoaaDoor.Bytes Go.Proofs.YtpnmhanjibhgoaaDoor.Sha Go.Proofs.YtpnmhanjibhgoaaDoor.Tr Go.Proofs.YtpnmhanjibhgoaaDoor.Draw
set_option linter.unusedVariables false
set_option linter.unusedSimpArgs false

theorem keepS {w w' : World} {v : Value} {cs : List Value} {lo hi : Nat} (h : Own w lo hi 9 v cs) : Sl w v cs := h.sl
theorem Own.put8 {w : World} {lo hi gb n cap : Nat} {l : List ByteArray} (h : Own w lo hi 9 (.slice (some ⟨gb, 0, none⟩) n cap) (ss l)) (k : Nat) (x : ByteArray) : Own (w.setCell ⟨gb, k, none⟩ (.string x)) lo hi 9 (.slice (some ⟨gb, 0, none⟩) n cap) (ss (l.set k x)) := by
  obtain ⟨⟨h1, h2⟩, h3⟩ := h
  have hl : (ss (l.set k x)).length = (ss l).length := by rw [ss_len, ss_len, List.length_set]
  refine ⟨⟨by rw [Nat.mul_one], ?_⟩, h3⟩
  rcases h2 with ⟨he, _⟩ | ⟨g', cap', cur, he, hb, hg, hnc, hcm, hcs, ht⟩
  · cases he
  · simp only [Value.slice.injEq, Option.some.injEq, Addr.mk.injEq] at he
    obtain ⟨⟨rfl, _⟩, rfl, rfl⟩ := he
    refine .inr ⟨gb, cap, cur.setIfInBounds k (.string x), by rw [hl], hb, row_set hg k _, by rw [hl]; exact hnc, hcm, by simp; omega, ?_⟩
    rw [hl, Array.toList_setIfInBounds, List.take_set, ht]
    simp [ss]
theorem Own.block8 {w : World} {lo hi n cap : Nat} {e : TypeId} {ao : Option Addr} {cs : List Value} (h : Own w lo hi e (.slice ao n cap) cs) (hp : 0 < n) : ∃ gb, ao = some ⟨gb, 0, none⟩ ∧ lo ≤ gb ∧ gb < hi ∧ ∃ cur, w.heap[gb]? = some (.cells cur e (0, 0)) ∧ n ≤ cur.size := by
  obtain ⟨⟨h1, h2⟩, h3⟩ := h
  rcases h2 with ⟨he, h0⟩ | ⟨g', cap', cur, he, hb, hg, hnc, hcm, hcs, ht⟩
  · simp only [Value.slice.injEq] at he
    omega
  · simp only [Value.slice.injEq] at he
    obtain ⟨rfl, rfl, rfl⟩ := he
    exact ⟨g', rfl, hb, h3 g' rfl, cur, hg, by omega⟩
theorem ssOne8 (l : List ByteArray) : ∀ u ∈ ss l, u.oneCell' = true := by
  intro u hu
  simp only [ss, List.mem_map] at hu
  obtain ⟨s, _, rfl⟩ := hu
  rfl
theorem setSmall {l : List ByteArray} {n : Nat} (h : ∀ s ∈ l, s.size ≤ n) (k : Nat) {x : ByteArray} (hx : x.size ≤ n) : ∀ s ∈ l.set k x, s.size ≤ n := by
  intro s hs
  rcases List.mem_or_eq_of_mem_set hs with hs | rfl
  · exact h s hs
  · exact hx

set_option maxRecDepth 1000000 in
theorem once8 (W0 w : World) (g : Nat) (vb : Value) (xs : List Int) (n : Int) (hn1 : 1 ≤ n) (hn2 : n ≤ 9223372036854775807) (hs : Sl W0 vb (bs xs)) (hby : Byt xs) (hx : xs.length ≤ 140737488355328) (hB : Below W0.heap.size W0 w) (hg : W0.heap.size ≤ g) (hc : Cur w g vb xs.length) :
    Calls Tryd.prog 20 #[.pointer (some ⟨g, 0, none⟩), .int .i64 n] w fun e w' => ∃ b : Bool, e = .returned (.bool b) ∧ Drawn W0 w g vb xs w' := by
  go_enter Tryd.func20, Tryd.ntmps20
  go_wp2_with fail
  refine (below_any W0 _ g vb xs n hn1 hn2 hs hby hx hB hg hc).mono ?_
  rintro e w2 ⟨a, rfl, a0, a1, hd2⟩
  go_wp2_with fail
  go_ret
  exact ⟨_, rfl, hd2⟩

set_option maxRecDepth 1000000 in
set_option maxHeartbeats 4000000 in
theorem drawClash_any (w : World) (vb : Value) (xs : List Int) (hs : Sl w vb (bs xs)) (hby : Byt xs) (hx : xs.length ≤ 140737488355328) :
    Calls Tryd.prog 7 #[vb] w fun e w' => ∃ (v1 v2 : Value) (l m : List ByteArray), e = .returned (.tuple #[v1, v2]) ∧ l.length ≤ 8 ∧ m.length ≤ 8 ∧ (∀ s ∈ l, s.size ≤ 5) ∧ (∀ s ∈ m, s.size ≤ 5) ∧ Sl w' v1 (ss l) ∧ Sl w' v2 (ss m) ∧ Below w.heap.size w w' := by
  obtain ⟨i0, hi, hz0, hz1, hz2⟩ := info_parts info9t
  go_enter Tryd.func7, Tryd.ntmps7
  go_wp2_with fail
  refine (new_any w vb xs hs hby hx).mono ?_
  rintro e w1 ⟨rfl, d1⟩
  have g1 := d1.cur.lt
  go_wp2_with fail
  refine (list_any w w1 w.heap.size vb xs hs hby hx d1.below (Nat.le_refl _) d1.cur).mono ?_
  rintro e w2 ⟨v2, l, rfl, hll, hls, o2, d2⟩
  obtain ⟨ao2, cap2, rfl⟩ := o2.len
  rw [ss_len] at *
  have HZ : Hid (∀ s ∈ l, s.size ≤ 5) := fun s h => Nat.le_trans (hls s h) (by omega)
  have o2 : Hid (Own w2 w1.heap.size w2.heap.size 9 (.slice ao2 l.length cap2) (ss l)) := o2
  have z12 : w1.heap.size ≤ w2.heap.size := d2.apart.size
  clear hls
  go_wp2_with fail
  refine (once8 w w2 w.heap.size vb xs 3 (by omega) (by omega) hs hby hx d2.below (Nat.le_refl _) d2.cur).mono ?_
  rintro e w3 ⟨t, rfl, d3⟩
  have z23 : w2.heap.size ≤ w3.heap.size := d3.apart.size
  have o3 : Hid (Own w3 w1.heap.size w3.heap.size 9 (.slice ao2 l.length cap2) (ss l)) := (Own.drawn o2.out d3 (.inl g1) (Nat.le_refl _)).mono (Nat.le_refl _) z23
  have d3 : Hid (Drawn w w1 w.heap.size vb xs w3) := d2.and d3
  clear o2 d2
  cases t
  · have oe := emptyT w3 w3.heap.size (Nat.le_refl _)
    have ze : (ss []).length + (ss l).length ≤ maxLen := by rw [ss_len, ss_len]; unfold maxLen; simp; omega
    have zf : ((ss []).length + (ss l).length) * 16 ≤ 140737488355328 := by rw [ss_len, ss_len]; simp; omega
    have zg : w3.heap.size ≤ (w3.alloc (.cells #[] 9)).heap.size := by simp
    have se : Sl (w3.alloc (.cells #[] 9)) (.slice ao2 l.length cap2) (ss l) := (o3.out.alloc _).sl
    go_wp2_with (at_builtin; go_must (refine wpl_app _ rfl (.tmp 17) (.tmp 18) 24 rfl 9 i0 (.string ⟨#[]⟩) 16 Tryd.underlying24 hi hz0 hz1 hz2 rfl w3.heap.size _ (ss []) rfl oe _ rfl (ss l) se (ssOne8 l) ze zf zg ?_))
    intro v4 w4 o4 b4 _
    have b34 : Below w3.heap.size w3 w4 := ((Below.refl _ _).alloc (Nat.le_refl _) _).trans b4
    have o4 : Hid (Own w4 w3.heap.size w4.heap.size 9 v4 (ss l)) := by have h := o4; rwa [← ss_app] at h
    have ol4 : Hid (Own w4 w1.heap.size w3.heap.size 9 (.slice ao2 l.length cap2) (ss l)) := o3.out.later b34 (Nat.le_refl _)
    have z34 : w3.heap.size ≤ w4.heap.size := b34.size
    have d4 : Hid (Drawn w w1 w.heap.size vb xs w4) := d3.out.on (Nat.le_refl _) g1 (b34.mono d3.out.apart.size)
    clear oe ze zf zg se b4 b34 o3 d3
    obtain ⟨ao4, cap4, rfl⟩ := o4.out.len
    rw [ss_len] at *
    have fin : ∀ (W : World) (v : Value) (m : List ByteArray), Hid (Own W w3.heap.size W.heap.size 9 v (ss m)) → Hid (Own W w1.heap.size w3.heap.size 9 (.slice ao2 l.length cap2) (ss l)) → Hid (Drawn w w1 w.heap.size vb xs W) → w3.heap.size ≤ W.heap.size → m.length ≤ 8 → Hid (∀ s ∈ m, s.size ≤ 5) → True := fun _ _ _ _ _ _ _ _ _ => trivial
    by_cases hp : 0 < l.length
    · obtain ⟨gb, rfl, hg1, hg2, cur, hcur, hcs⟩ := Own.block8 o4.out hp
      have p1 : (0 : Int) < (l.length : Int) := by omega
      have q5 := below_any w w4 w.heap.size vb xs (l.length : Int) (by omega) (by omega) hs hby hx d4.out.below (Nat.le_refl _) d4.out.cur
      go_wp2_with fail
      refine q5.mono ?_
      rintro e w5 ⟨x, rfl, x0, x1, d5⟩
      obtain ⟨k, rfl⟩ := Int.eq_ofNat_of_zero_le x0
      have hk : k < l.length := by omega
      have z45 : w4.heap.size ≤ w5.heap.size := d5.apart.size
      have hc5 : w5.heap[gb]? = some (.cells cur 9 (0, 0)) := (d5.apart.block gb hg2 (by omega)).trans hcur
      have fk : w5.frozen? ⟨gb, k, none⟩ = false := row_free hc5 k
      have o5 : Own w5 w3.heap.size w4.heap.size 9 (.slice (some ⟨gb, 0, none⟩) l.length cap4) (ss l) := Own.drawn o4.out d5 (.inl (by omega)) (Nat.le_refl _)
      have ol5 : Own w5 w1.heap.size w3.heap.size 9 (.slice ao2 l.length cap2) (ss l) := Own.drawn ol4.out d5 (.inl g1) z34
      have d5 := d4.out.and d5
      have ck : ∃ s, w5.cell? ⟨gb, k, none⟩ = some (.string s) := by
        obtain ⟨ao', cap', he, _, _, hr⟩ := o5.sl
        rw [ss_len] at he hr
        simp only [Value.slice.injEq] at he
        obtain ⟨rfl, _, rfl⟩ := he
        obtain ⟨b', off', s, he', _, hcell⟩ := Sl.strAt hr rfl hk
        simp only [Option.some.injEq, Addr.mk.injEq, and_true] at he'
        obtain ⟨rfl, rfl⟩ := he'
        exact ⟨s, by simpa using hcell⟩
      obtain ⟨s, ck⟩ := ck
      have O6 : Hid (Own (w5.setCell ⟨gb, k, none⟩ (.string ⟨#[111, 116, 104, 101, 114]⟩)) w3.heap.size w4.heap.size 9 (.slice (some ⟨gb, 0, none⟩) l.length cap4) (ss (l.set k ⟨#[111, 116, 104, 101, 114]⟩))) := Own.put8 o5 k _
      have L6 : Hid (Own (w5.setCell ⟨gb, k, none⟩ (.string ⟨#[111, 116, 104, 101, 114]⟩)) w1.heap.size w3.heap.size 9 (.slice ao2 l.length cap2) (ss l)) := Own.setCell ol5 _ (by omega)
      have D6 : Hid (Drawn w w1 w.heap.size vb xs (w5.setCell ⟨gb, k, none⟩ (.string ⟨#[111, 116, 104, 101, 114]⟩))) := d5.on (Nat.le_refl _) g1 ((Below.refl _ _).setCell (p := ⟨gb, k, none⟩) (by show _ ≤ gb; omega) _)
      have Z6 : w5.heap.size ≤ (w5.setCell ⟨gb, k, none⟩ (.string ⟨#[111, 116, 104, 101, 114]⟩)).heap.size := by simp [World.setCell]
      have S6 : Hid (∀ s ∈ l.set k (⟨#[111, 116, 104, 101, 114]⟩ : ByteArray), s.size ≤ 5) := setSmall HZ.out k (by decide)
      have N6 : (l.set k (⟨#[111, 116, 104, 101, 114]⟩ : ByteArray)).length ≤ 8 := by rw [List.length_set]; exact hll
      obtain ⟨m, hm⟩ : ∃ m, l.set k (⟨#[111, 116, 104, 101, 114]⟩ : ByteArray) = m := ⟨_, rfl⟩
      obtain ⟨w6, hw6⟩ : ∃ X, w5.setCell ⟨gb, k, none⟩ (.string ⟨#[111, 116, 104, 101, 114]⟩) = X := ⟨_, rfl⟩
      rw [hm, hw6] at O6
      rw [hm] at S6 N6
      rw [hw6] at L6 D6 Z6
      have HW : Hid _ := hw6
      have kk : (k : Int) < (l.length : Int) := by omega
      clear hm hw6 o5 ol5 d5 q5 hcur hc5 o4 ol4 d4 fin hcs
      go_wp2_with fail
      rw [HW.out]
      refine (once8 w w6 w.heap.size vb xs 4 (by omega) (by omega) hs hby hx D6.out.below (Nat.le_refl _) D6.out.cur).mono ?_
      rintro e w7 ⟨t, rfl, d7⟩
      have z67 : w6.heap.size ≤ w7.heap.size := d7.apart.size
      have O7 : Hid (Own w7 w3.heap.size w4.heap.size 9 (.slice (some ⟨gb, 0, none⟩) l.length cap4) (ss m)) := Own.drawn O6.out d7 (.inl (by omega)) (by omega)
      have L7 : Hid (Own w7 w1.heap.size w3.heap.size 9 (.slice ao2 l.length cap2) (ss l)) := Own.drawn L6.out d7 (.inl g1) (by omega)
      have D7 : Hid (Drawn w w1 w.heap.size vb xs w7) := D6.out.and d7
      clear O6 L6 D6 HW ck fk d7
      cases t
      · go_wp2
        go_ret2
        exact ⟨_, _, l, m, rfl, hll, N6, HZ.out, S6.out, L7.out.sl, O7.out.sl, D7.out.below⟩
      · go_wp2_with fail
        refine (list_any w w7 w.heap.size vb xs hs hby hx D7.out.below (Nat.le_refl _) D7.out.cur).mono ?_
        rintro e w8 ⟨v8, m8, rfl, hl8, hz8, o8, d8⟩
        have L8 : Hid (Own w8 w1.heap.size w3.heap.size 9 (.slice ao2 l.length cap2) (ss l)) := Own.drawn L7.out d8 (.inl g1) (by omega)
        have B8 := (D7.out.and d8).below
        clear L7 O7 D7 d8
        go_wp2
        go_ret2
        exact ⟨_, _, l, m8, rfl, hll, hl8, HZ.out, (fun s h => Nat.le_trans (hz8 s h) (by omega)), L8.out.sl, o8.sl, B8⟩
    · have p1 : ¬ (0 : Int) < (l.length : Int) := by omega
      have q5 := once8 w w4 w.heap.size vb xs 4 (by omega) (by omega) hs hby hx d4.out.below (Nat.le_refl _) d4.out.cur
      clear fin
      go_wp2_with fail
      refine q5.mono ?_
      rintro e w7 ⟨t, rfl, d7⟩
      have z67 : w4.heap.size ≤ w7.heap.size := d7.apart.size
      have O7 : Hid (Own w7 w3.heap.size w4.heap.size 9 (.slice ao4 l.length cap4) (ss l)) := Own.drawn o4.out d7 (.inl (by omega)) (by omega)
      have L7 : Hid (Own w7 w1.heap.size w3.heap.size 9 (.slice ao2 l.length cap2) (ss l)) := Own.drawn ol4.out d7 (.inl g1) (by omega)
      have D7 : Hid (Drawn w w1 w.heap.size vb xs w7) := d4.out.and d7
      clear o4 ol4 d4 d7 q5
      cases t
      · go_wp2
        go_ret2
        exact ⟨_, _, l, l, rfl, hll, hll, HZ.out, HZ.out, L7.out.sl, O7.out.sl, D7.out.below⟩
      · go_wp2_with fail
        refine (list_any w w7 w.heap.size vb xs hs hby hx D7.out.below (Nat.le_refl _) D7.out.cur).mono ?_
        rintro e w8 ⟨v8, m8, rfl, hl8, hz8, o8, d8⟩
        have L8 : Hid (Own w8 w1.heap.size w3.heap.size 9 (.slice ao2 l.length cap2) (ss l)) := Own.drawn L7.out d8 (.inl g1) (by omega)
        have B8 := (D7.out.and d8).below
        clear L7 O7 D7 d8
        go_wp2
        go_ret2
        exact ⟨_, _, l, m8, rfl, hll, hl8, HZ.out, (fun s h => Nat.le_trans (hz8 s h) (by omega)), L8.out.sl, o8.sl, B8⟩
  · have oe := emptyT w3 w3.heap.size (Nat.le_refl _)
    have ze : (ss []).length + (ss l).length ≤ maxLen := by rw [ss_len, ss_len]; unfold maxLen; simp; omega
    have zf : ((ss []).length + (ss l).length) * 16 ≤ 140737488355328 := by rw [ss_len, ss_len]; simp; omega
    have zg : w3.heap.size ≤ (w3.alloc (.cells #[] 9)).heap.size := by simp
    have se : Sl (w3.alloc (.cells #[] 9)) (.slice ao2 l.length cap2) (ss l) := (o3.out.alloc _).sl
    go_wp2_with (at_builtin; go_must (refine wpl_app _ rfl (.tmp 14) (.tmp 15) 24 rfl 9 i0 (.string ⟨#[]⟩) 16 Tryd.underlying24 hi hz0 hz1 hz2 rfl w3.heap.size _ (ss []) rfl oe _ rfl (ss l) se (ssOne8 l) ze zf zg ?_))
    intro v4 w4 o4 b4 _
    have b34 : Below w3.heap.size w3 w4 := ((Below.refl _ _).alloc (Nat.le_refl _) _).trans b4
    have o4 : Hid (Own w4 w3.heap.size w4.heap.size 9 v4 (ss l)) := by have h := o4; rwa [← ss_app] at h
    have ol4 : Hid (Own w4 w1.heap.size w3.heap.size 9 (.slice ao2 l.length cap2) (ss l)) := o3.out.later b34 (Nat.le_refl _)
    have z34 : w3.heap.size ≤ w4.heap.size := b34.size
    have d4 : Hid (Drawn w w1 w.heap.size vb xs w4) := d3.out.on (Nat.le_refl _) g1 (b34.mono d3.out.apart.size)
    clear oe ze zf zg se b4 b34 o3 d3
    go_wp2
    go_ret2
    exact ⟨_, _, l, l, rfl, hll, hll, HZ.out, HZ.out, ol4.out.sl, o4.out.sl, d4.out.below⟩

theorem u8_byt (x : Int) : 0 ≤ IntKind.u8.wrap x ∧ IntKind.u8.wrap x ≤ 255 := by rw [IntKind.wrap_u8]; omega

set_option maxRecDepth 1000000 in
set_option maxHeartbeats 4000000 in
theorem twin_any (w : World) : Calls Tryd.prog 31 #[] w fun e w' => ∃ s : ByteArray, e = .returned (.string s) ∧ s.size ≤ 2 ∧ Below w.heap.size w w' := by
  have ho := oneB w w.heap.size 0 (Nat.le_refl _)
  have hB : Below w.heap.size w (w.alloc (.cells #[.int .u8 0] 5)) := (Below.refl _ _).alloc (Nat.le_refl _) _
  have q := digest_spec _ _ [0] ho.sl (by intro x hx; simp at hx; omega) (by simp)
  have zq : (Plain.txt (digest [0])).size = 32 := by rw [txt_size, digest_len]
  obtain ⟨D, hD⟩ : ∃ D, Plain.txt (digest [0]) = D := ⟨_, rfl⟩
  rw [hD] at q zq
  have k0 : (0 : Int) < (D.size : Int) := by omega
  have k1 : 0 < D.size := by omega
  have HB : Hid _ := hB
  clear hD ho hB
  go_enter Tryd.func31, Tryd.ntmps31
  go_wp2_with fail
  refine q.mono ?_
  rintro e w1 ⟨rfl, b1⟩
  have B1 : Below w.heap.size w w1 := HB.out.trans (b1.mono HB.out.size)
  clear b1 q
  go_wp2
  go_loopw [2] (fun i wr => ∃ k : Nat, 1 ≤ k ∧ k ≤ 65536 ∧ i = .int .i64 k ∧ Below w.heap.size w wr) (fun i _ => 65536 - (intOf i).toNat)
  case atStart => exact ⟨1, by omega, by omega, rfl, B1⟩
  case round =>
    obtain ⟨k, hk0, hk1, rfl, hb⟩ := hrel
    clear B1
    by_cases hlt : k < 65536
    · have hlt' : (k : Int) < 65536 := by omega
      have b0 : 0 ≤ (k : Int) % 256 ∧ (k : Int) % 256 ≤ 255 := by omega
      have b1 : 0 ≤ (k : Int) / 256 ∧ (k : Int) / 256 ≤ 255 := by omega
      have hy : Byt [(k : Int) % 256, (k : Int) / 256] := by
        intro x hx
        simp only [List.mem_cons, List.not_mem_nil, or_false] at hx
        rcases hx with rfl | rfl
        · exact b0
        · exact b1
      have s2 := Sha.Sl.two wr ((k : Int) % 256) ((k : Int) / 256) 5
      have B2 : Below w.heap.size w (wr.alloc (.cells #[.int .u8 ((k : Int) % 256), .int .u8 ((k : Int) / 256)] 5)) := hb.alloc hb.size _
      have q2 := digest_spec _ _ _ s2 hy (by simp)
      have zr : (Plain.txt (digest [(k : Int) % 256, (k : Int) / 256])).size = 32 := by rw [txt_size, digest_len]
      obtain ⟨D2, hD2⟩ : ∃ D, Plain.txt (digest [(k : Int) % 256, (k : Int) / 256]) = D := ⟨_, rfl⟩
      rw [hD2] at q2 zr
      have k2 : (0 : Int) < (D2.size : Int) := by omega
      have k3 : 0 < D2.size := by omega
      have HS2 : Hid (Sl (wr.alloc (.cells #[.int .u8 ((k : Int) % 256), .int .u8 ((k : Int) / 256)] 5)) (.slice (some ⟨wr.heap.size, 0, none⟩) 2 2) (bs [(k : Int) % 256, (k : Int) / 256])) := s2
      have HY : Hid _ := hy
      have HB2 : Hid _ := B2
      clear hD2 s2 hy B2 hb b0 b1
      go_wp2_with fail
      refine q2.mono ?_
      rintro e w3 ⟨rfl, b3⟩
      have B3 : Below w.heap.size w w3 := HB2.out.trans (b3.mono HB2.out.size)
      have hcv := conv_sl (HS2.out.later b3) HY.out
      have zt : (Plain.txt [(k : Int) % 256, (k : Int) / 256]).size ≤ 2 := by rw [txt_size]; simp
      obtain ⟨T, hT⟩ : ∃ T, Plain.txt [(k : Int) % 256, (k : Int) / 256] = T := ⟨_, rfl⟩
      rw [hT] at hcv zt
      clear q2 b3 hT HB2 HS2 HY
      by_cases hq : (((D2[0]'k3).toNat : Int) == ((D[0]'k1).toNat : Int)) = true
      · go_wp2
        go_ret
        exact ⟨_, rfl, zt, B3⟩
      · have hq : (((D2[0]'k3).toNat : Int) == ((D[0]'k1).toNat : Int)) = false := by simpa using hq
        clear hcv
        go_wp2
        go_roundw
        case rel => exact ⟨k + 1, by omega, by omega, by go_num, B3⟩
        case measure => simp [intOf]; omega
    · have hlt' : ¬ (k : Int) < 65536 := by omega
      go_wp2
      go_ret
      exact ⟨_, rfl, by decide, hb⟩

end Go.Proofs.YtpnmhanjibhgoaaDoor.Cl

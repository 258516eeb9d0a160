/- Texts in one: EfE, EfF, EfD. -/
import Derived.Test.YtljlcelbhlkmcabGreatDoorPk11
import Derived.Test.YtljlcelbhlkmcabGreatDoorPk31
import Derived.Test.YtljlcelbhlkmcabGreatDoorPk27
import Derived.Test.YtljlcelbhlkmcabGreatDoorPk33
import Derived.Test.YtljlcelbhlkmcabGreatDoorPk13
import Derived.Test.YtljlcelbhlkmcabGreatDoorPk32
import Derived.Test.YtljlcelbhlkmcabGreatDoorPk21
/- Chapter 5, the landed code: names. -/
namespace Go.Proofs.YtljlcelbhlkmcabGreatDoor.Ent
open Go.RowKit Go.Proofs.YtljlcelbhlkmcabGreatDoor.Mem Go.Proofs.YtljlcelbhlkmcabGreatDoor.Laws Go.Proofs.YtljlcelbhlkmcabGreatDoor.Bytes Go.Proofs.YtljlcelbhlkmcabGreatDoor.Sha Go.Proofs.YtljlcelbhlkmcabGreatDoor.Ver Go.Proofs.YtljlcelbhlkmcabGreatDoor.Mod
set_option linter.unusedVariables false
set_option linter.unusedSimpArgs false

set_option maxRecDepth 1000000 in
set_option maxHeartbeats 1000000 in
theorem name_impl (w : World) (hG : Glob w) (n : Nd) (hp : n.path.size ≤ 1000000000) (hq : n.pre.size ≤ 1000000000) :
    Calls Tryz.prog 12 #[.string n.path, .agg #[.int .i64 n.a, .int .i64 n.b, .int .i64 n.c, .string n.pre]] w fun e w' => e = .returned (.string (name5 n)) ∧ Below w.heap.size w w' := by
  have HD : Hid (name5 n = if n.ok = true then n.path ++ ⟨#[64]⟩ ++ Plain.txt (verText n.a n.b n.c n.pre) else ⟨#[]⟩) := rfl
  have q1 := fits_impl (w.alloc (.cells #[.int .i64 n.a, .int .i64 n.b, .int .i64 n.c, .string n.pre] 25)) n.path n.a n.b n.c n.pre (by omega) (by omega)
  have q2 : ∀ W, Below w.heap.size w W → _ := fun W hW => vtext_impl W n.a n.b n.c n.pre (by omega) (Glob.later hG hW)
  unfold Ver.ver at q1 q2
  have HR : Hid (Vr (w.alloc (.cells #[.int .i64 n.a, .int .i64 n.b, .int .i64 n.c, .string n.pre] 25)) w.heap.size n.a n.b n.c n.pre) := heap_alloc_new w _
  have HB : Hid (Below w.heap.size w (w.alloc (.cells #[.int .i64 n.a, .int .i64 n.b, .int .i64 n.c, .string n.pre] 25))) := (Below.refl _ _).alloc (Nat.le_refl _) _
  obtain ⟨ok, hok⟩ : ∃ ok, n.ok = ok := ⟨_, rfl⟩
  have hok' : fits4 n.path n.a n.b n.c n.pre = ok := hok
  rw [hok'] at q1
  rw [hok] at HD
  obtain ⟨t, ht⟩ : ∃ t, Plain.txt (verText n.a n.b n.c n.pre) = t := ⟨_, rfl⟩
  simp only [ht] at q2
  rw [ht] at HD
  have htz : t.size ≤ 2000000000 := by
    rw [← ht, txt_sizev]
    unfold verText vt
    split
    · have h6 : ∀ m, (digF 6 m).length ≤ 7 := fun m => (digF_len 6 m).2
      have := h6 n.a.toNat
      have := h6 n.b.toNat
      have := h6 n.c.toNat
      split <;> simp [sb_len] <;> omega
    · simp
  clear hok hok' ht
  go_enter Tryz.func12, Tryz.ntmps12
  go_wp2_with fail
  refine q1.mono ?_
  rintro e w1 ⟨rfl, b1⟩
  have hR := Vr.same HR.out b1
  have hB : Below w.heap.size w w1 := HB.out.trans (b1.mono HB.out.size)
  clear q1 HR HB b1
  cases ok
  · have HN : Hid (name5 n = ⟨#[]⟩) := HD.out
    go_wp2
    go_ret
    exact ⟨by rw [HN.out]; rfl, hB⟩
  · have HN : Hid (name5 n = n.path ++ ⟨#[64]⟩ ++ t) := HD.out
    obtain ⟨k0, k1, k2, k3⟩ := Vr.cells hR
    clear hR HD
    go_wp2_with fail
    refine (q2 _ hB).mono ?_
    rintro e w2 ⟨rfl, b2⟩
    have hB2 : Below w.heap.size w w2 := hB.trans (b2.mono hB.size)
    go_wp2
    go_ret
    exact ⟨by rw [HN.out]; rfl, hB2⟩

end Go.Proofs.YtljlcelbhlkmcabGreatDoor.Ent

/- Chapter 5, the landed code: an entry's text. -/
namespace Go.Proofs.YtljlcelbhlkmcabGreatDoor.Ent
open Go.RowKit Go.Proofs.YtljlcelbhlkmcabGreatDoor.Mem Go.Proofs.YtljlcelbhlkmcabGreatDoor.Laws Go.Proofs.YtljlcelbhlkmcabGreatDoor.Bytes Go.Proofs.YtljlcelbhlkmcabGreatDoor.Sha Go.Proofs.YtljlcelbhlkmcabGreatDoor.Ver Go.Proofs.YtljlcelbhlkmcabGreatDoor.Mod
set_option linter.unusedVariables false
set_option linter.unusedSimpArgs false

set_option maxRecDepth 1000000 in
set_option maxHeartbeats 2000000 in
theorem put_impl5 (w : World) (hG : Glob w) (hg : As.Hand w) (n : Nd) (v : Value) (l : List Nd) (h : Sd w v l) (hl : l.length ≤ 1048576) (hp : n.path.size ≤ 1048576) (hq : n.pre.size ≤ 1048576) (hz : ∀ n ∈ l, n.path.size ≤ 1048576 ∧ n.pre.size ≤ 1048576) :
    Calls Tryz.prog 7 #[.agg #[.string n.path, .int .i64 n.a, .int .i64 n.b, .int .i64 n.c, .string n.pre, v]] w fun e w' => e = .returned (.string (put5 n l)) ∧ Below w.heap.size w w' := by
  obtain ⟨i0, hi, hz0, hz1, hz2⟩ := info_parts info9v
  have HD : Hid (put5 n l = if entry5 n l = true then Plain.txt (Puts.tx (name5 n) ++ Puts.num (l.length : Int) ++ Puts.txs (l.map name5)) else ⟨#[]⟩) := rfl
  have HB : Hid (Below w.heap.size w (w.alloc (.cells #[.string n.path, .int .i64 n.a, .int .i64 n.b, .int .i64 n.c, .string n.pre, v] 28))) := (Below.refl _ _).alloc (Nat.le_refl _) _
  have HR : Hid ((w.alloc (.cells #[.string n.path, .int .i64 n.a, .int .i64 n.b, .int .i64 n.c, .string n.pre, v] 28)).heap[w.heap.size]? = some (.cells (ec n v) 28 (0, 0))) := heap_alloc_new w _
  have q0 := entryok_impl (w.alloc (.cells #[.string n.path, .int .i64 n.a, .int .i64 n.b, .int .i64 n.c, .string n.pre, v] 28)) (As.Hand.later hg HB.out) n v l (h.later HB.out) (by omega) (by omega) (by omega) (fun x hx => by have := hz x hx; omega)
  have HS : Hid (Sd w v l) := h
  have HZ : Hid (∀ n ∈ l, n.path.size ≤ 1048576 ∧ n.pre.size ≤ 1048576) := hz
  have HT := tot_name l hz
  have HG : Hid (Glob w) := hG
  obtain ⟨hcl, ao, cap, rfl, hcap, hnn, _⟩ := h
  clear hz hG hg
  obtain ⟨ok, hok⟩ : ∃ ok, entry5 n l = ok := ⟨_, rfl⟩
  rw [hok] at q0 HD
  clear hok
  go_enter Tryz.func7, Tryz.ntmps7
  go_wp2_with (refine wpList_load_row rfl 28 _ rfl w.heap.size rfl 28 (ec n (.slice ao l.length cap)) (0, 0) _ HR.out Tryz.underlying28 rfl (sizeIE n _) ?_)
  refine q0.mono ?_
  rintro e w1 ⟨rfl, b1⟩
  have r1 := rowKeep HR.out b1
  have hB1 : Below w.heap.size w w1 := HB.out.trans (b1.mono HB.out.size)
  clear q0 HR HB b1
  cases ok
  · have HN : Hid (put5 n l = ⟨#[]⟩) := HD.out
    clear HD
    go_wp2
    go_ret
    exact ⟨by rw [HN.out]; rfl, hB1⟩
  have HN : Hid (put5 n l = Plain.txt (Puts.tx (name5 n) ++ Puts.num (l.length : Int) ++ Puts.txs (l.map name5))) := HD.out
  clear HD
  have hlt1 : w.heap.size < w1.heap.size := (Array.getElem?_eq_some_iff.1 r1).1
  have j5 : w1.cell? ⟨w.heap.size, 5, none⟩ = some (.slice ao l.length cap) := row_cells r1 5
  have HR1 : Hid _ := r1
  have HB1 : Hid _ := hB1
  clear r1 hB1
  go_wp2_with (at_make; refine wpList_make_own _ rfl _ _ 46 rfl w1.heap.size 9 i0 (.string ⟨#[]⟩) 1 Tryz.underlying46 hi hz0 hz1 _ _ _ l.length rfl rfl rfl (by rw [hz2]; omega) (by unfold maxLen; omega) (Nat.le_refl _) ?_)
  intro w2 hown hgrow
  have hbel : Below w1.heap.size w1 w2 := (Below.refl _ _).grown hgrow (Nat.le_refl _) (by simp)
  have hown1 : Mem.Own w2 w1.heap.size w2.heap.size 9 (.slice (some ⟨w1.heap.size, 0, none⟩) 0 l.length) (ss []) := Mem.Own.of hown
  have HO0 : Hid _ := hown1
  have r2 : w2.heap[w.heap.size]? = some (.cells (ec n (.slice ao l.length cap)) 28 (0, 0)) := rowKeep HR1.out hbel
  have j5' : w2.cell? ⟨w.heap.size, 5, none⟩ = some (.slice ao l.length cap) := row_cells r2 5
  have HR2 : Hid _ := r2
  have HB2 : Hid (Below w.heap.size w w2) := HB1.out.trans (hbel.mono HB1.out.size)
  have hs0 : w1.heap.size ≤ w2.heap.size := hbel.size
  clear hown hgrow hbel hown1 r2 HR1 HB1 j5
  go_wp2
  go_loopw [3, 16] (fun vn i wr => ∃ k : Nat, k ≤ l.length ∧ i = .int .i64 (k : Int) ∧ w1.heap.size ≤ wr.heap.size ∧ Mem.Own wr w1.heap.size wr.heap.size 9 vn (ss ((l.take k).map name5)) ∧ wr.heap[w.heap.size]? = some (.cells (ec n (.slice ao l.length cap)) 28 (0, 0)) ∧ Below w.heap.size w wr) (fun _ i _ => l.length - (intOf i).toNat)
  case atStart => exact ⟨0, Nat.zero_le _, rfl, hs0, HO0.out, HR2.out, HB2.out⟩
  case round =>
    obtain ⟨k, hk, rfl, hs1, ho, hR, hB⟩ := hrel
    clear HO0 HR2 HB2 j5' hs0
    by_cases hlt : k < l.length
    · obtain ⟨x, hn⟩ : ∃ n, l[k]? = some n := ⟨l[k], by simp [hlt]⟩
      obtain ⟨b, off, cap', he, _, c0, c1, c2, c3, c4⟩ := Sd.at (HS.out.later hB) hn
      simp only [Value.slice.injEq] at he
      obtain ⟨rfl, _, rfl⟩ := he
      have hxz := HZ.out x (List.mem_of_getElem? hn)
      have hB0 : Below w.heap.size w (wr.alloc (.cells #[.string x.path, .int .i64 x.a, .int .i64 x.b, .int .i64 x.c, .string x.pre] 35)) := hB.alloc hB.size _
      have q1 := name_impl (wr.alloc (.cells #[.string x.path, .int .i64 x.a, .int .i64 x.b, .int .i64 x.c, .string x.pre] 35)) (Glob.later HG.out hB0) x (by omega) (by omega)
      have HNr : Hid (Nr (wr.alloc (.cells #[.string x.path, .int .i64 x.a, .int .i64 x.b, .int .i64 x.c, .string x.pre] 35)) wr.heap.size x) := heap_alloc_new wr _
      obtain ⟨r0, r1, r2, r3, r4⟩ := Nr.cells HNr.out
      have HTk : Hid (l.take (k + 1) = l.take k ++ [x]) := by show _ = _; rw [List.take_add_one, hn]; rfl
      have HR0 : Hid ((wr.alloc (.cells #[.string x.path, .int .i64 x.a, .int .i64 x.b, .int .i64 x.c, .string x.pre] 35)).heap[w.heap.size]? = some (.cells (ec n (.slice (some ⟨b, off, none⟩) l.length cap)) 28 (0, 0))) := rowKeep hR ((Below.refl _ _).alloc (Nat.le_refl _) _)
      have HO : Hid (Mem.Own (wr.alloc (.cells #[.string x.path, .int .i64 x.a, .int .i64 x.b, .int .i64 x.c, .string x.pre] 35)) w1.heap.size (wr.alloc (.cells #[.string x.path, .int .i64 x.a, .int .i64 x.b, .int .i64 x.c, .string x.pre] 35)).heap.size 9 _ (ss ((l.take k).map name5))) := ho.alloc _
      have HB0 : Hid _ := hB0
      have hln : ((l.take k).map name5).length = k := by simp; omega
      have c6 : (ss ((l.take k).map name5)).length + 1 ≤ maxLen := by rw [ss_len, hln]; unfold maxLen; omega
      have c7 : ((ss ((l.take k).map name5)).length + 1) * 16 ≤ 140737488355328 := by rw [ss_len, hln]; omega
      clear hn hR hln ho hB0
      go_wp2_with fail
      refine q1.mono ?_
      rintro e w4 ⟨rfl, b4⟩
      have hs4 : w1.heap.size ≤ w4.heap.size := by have := b4.size; rw [World.size_alloc] at this; omega
      have ho4 : ∀ o, Mem.Own (w4.alloc o) w1.heap.size (w4.alloc o).heap.size 9 _ (ss ((l.take k).map name5)) := fun o => Mem.Own.alloc ((Mem.Own.later HO.out b4 (Nat.le_refl _)).mono (Nat.le_refl _) b4.size) o
      have c8 : ∀ o, w1.heap.size ≤ (w4.alloc o).heap.size := fun o => by simp; omega
      have hB4 : Below w.heap.size w w4 := HB0.out.trans (b4.mono HB0.out.size)
      have hR4 := rowKeep HR0.out b4
      have HB4 : Hid _ := hB4
      have HR4 : Hid _ := hR4
      clear q1 HNr HR0 HO HB0 b4 r0 r1 r2 r3 r4 hB4 hR4
      go_wp2_with (at_builtin; go_must (refine wpl_app _ rfl (.tmp 20) (.tmp 26) 46 rfl 9 i0 (.string ⟨#[]⟩) 16 Tryz.underlying46 hi hz0 hz1 hz2 rfl w1.heap.size _ (ss ((l.take k).map name5)) rfl (ho4 _) _ rfl [.string (name5 x)] (Sl.one _ _ _) (one_strv _) c6 c7 (c8 _) ?_); intro v5 w5 ho5 hb5 hg5)
      have hB5 : Below w.heap.size w w5 := (HB4.out.alloc HB4.out.size _).trans (hb5.mono (by omega))
      have hR5 : w5.heap[w.heap.size]? = some (.cells (ec n (.slice (some ⟨b, off, none⟩) l.length cap)) 28 (0, 0)) := (hb5.block _ hlt1).trans (rowKeep HR4.out ((Below.refl _ _).alloc (Nat.le_refl _) _))
      have ho6 : Mem.Own w5 w1.heap.size w5.heap.size 9 v5 (ss ((l.take (k + 1)).map name5)) := by rw [HTk.out, List.map_append, ss_app]; exact ho5
      have hs5 : w1.heap.size ≤ w5.heap.size := Nat.le_trans hs4 (Nat.le_trans (by simp) hb5.size)
      clear ho4 ho5 hb5 hg5 c6 c7 c8 HB4 HR4
      go_roundw
      case rel => exact ⟨k + 1, by omega, by go_num, hs5, ho6, hR5, hB5⟩
      case measure => simp [intOf]; omega
    · have ho7 := ho
      rw [List.take_of_length_le (show l.length ≤ k by omega)] at ho7
      have k0 : wr.cell? ⟨w.heap.size, 0, none⟩ = some (.string n.path) := row_cells hR 0
      have k1 : wr.cell? ⟨w.heap.size, 1, none⟩ = some (.int .i64 n.a) := row_cells hR 1
      have k2 : wr.cell? ⟨w.heap.size, 2, none⟩ = some (.int .i64 n.b) := row_cells hR 2
      have k3 : wr.cell? ⟨w.heap.size, 3, none⟩ = some (.int .i64 n.c) := row_cells hR 3
      have k4 : wr.cell? ⟨w.heap.size, 4, none⟩ = some (.string n.pre) := row_cells hR 4
      have HO7 : Hid _ := ho7
      have HBr : Hid _ := hB
      have hnz := name5_size (n := n)
      have q2 := name_impl wr (Glob.later HG.out hB) n (by omega) (by omega)
      have HL : Hid ((Puts.txs (l.map name5)).length ≤ 5 * l.length + l.length * 2100000) := by
        have := Puts.txs_len (l.map name5)
        rw [List.length_map] at this
        show _ ≤ _
        omega
      clear ho ho7 hR hB
      go_wp2_with fail
      refine q2.mono ?_
      rintro e w6 ⟨rfl, b6⟩
      have q3 := Puts.putt_impl w6 (.slice none 0 0) [] (name5 n) (Mem.Sl.nil w6) (by simp) (by omega)
      have hB6 : Below w.heap.size w w6 := HBr.out.trans (b6.mono HBr.out.size)
      have s6 : Sl w6 _ (ss (l.map name5)) := (Mem.Own.sl HO7.out).later b6
      have HS6 : Hid _ := s6
      clear k0 k1 k2 k3 k4 q2 b6 HBr s6 HO7
      go_wp2_with fail
      refine q3.mono ?_
      rintro e w7 ⟨v7, rfl, o7, b7⟩
      have hB7 : Below w.heap.size w w7 := hB6.trans (b7.mono hB6.size)
      have htx := Puts.tx_len (name5 n)
      have q4 := Puts.putts_impl w7 v7 _ ([] ++ Puts.tx (name5 n)) (l.map name5) o7.sl (Mem.Sl.later HS6.out b7) (by have := HL.out; simp; omega) (by simp; omega)
      clear q3 o7 b7 hB6 HS6
      go_wp2_with fail
      refine q4.mono ?_
      rintro e w8 ⟨v8, rfl, o8, b8⟩
      have hB8 : Below w.heap.size w w8 := hB7.trans (b8.mono hB7.size)
      rw [List.nil_append, List.length_map] at o8
      have hcv := conv_sl (w := w8) o8.sl (((Puts.tx_byt _).app (Puts.num_byt _)).app (txs_byt5 _))
      go_wp2
      go_ret
      exact ⟨by rw [HN.out, List.append_assoc]; rfl, hB8⟩

end Go.Proofs.YtljlcelbhlkmcabGreatDoor.Ent

/- Chapter 5, the landed code: a need read of its name. -/
namespace Go.Proofs.YtljlcelbhlkmcabGreatDoor.Ent
open Go.RowKit Go.Proofs.YtljlcelbhlkmcabGreatDoor.Mem Go.Proofs.YtljlcelbhlkmcabGreatDoor.Laws Go.Proofs.YtljlcelbhlkmcabGreatDoor.Bytes Go.Proofs.YtljlcelbhlkmcabGreatDoor.Sha Go.Proofs.YtljlcelbhlkmcabGreatDoor.Ver Go.Proofs.YtljlcelbhlkmcabGreatDoor.Mod
set_option linter.unusedVariables false
set_option linter.unusedSimpArgs false

theorem parseV_nil : parseV ⟨#[]⟩ = ((0, 0, 0, ⟨#[]⟩), false) := by
  unfold parseV
  rw [if_neg (by intro h; simp [sb] at h)]
theorem parseV_at {y : ByteArray} (h : (64 : Int) ∈ sb y) : (parseV y).2 = false := by
  obtain ⟨⟨a, b, c, p⟩, r, hpv⟩ : ∃ q r, parseV y = (q, r) := ⟨_, _, rfl⟩
  cases r
  · rw [hpv]
  · exfalso
    obtain ⟨hv, ht⟩ := parse_back hpv
    rw [verText_ok hv] at ht
    rw [← ht, sb_txtv (vt_byt hv)] at h
    exact vt_no hv 64 h rfl
theorem splitL_two : ∀ (l cur : List Int), (64 : Int) ∈ l → 2 ≤ (splitL 64 cur l).length := by
  intro l
  induction l with
  | nil => intro cur h; cases h
  | cons c r ih =>
    intro cur h
    unfold splitL
    by_cases hc : c = 64
    · rw [if_pos hc]
      have : 0 < (splitL 64 [] r).length := by
        cases r with
        | nil => simp [splitL]
        | cons d r =>
          by_cases hd : (64 : Int) ∈ d :: r
          · have := ih [] hd; omega
          · rw [split_last 64 _ (fun y hy e => hd (e ▸ hy))]; simp
      simp; omega
    · rw [if_neg hc]
      exact ih _ (by simpa [Ne.symm hc] using h)
theorem pn_no (x : ByteArray) (q : (Int × Int × Int × ByteArray) × Bool) (h : q.2 = false) : pn x q = (nil5, false) := by
  unfold pn
  rw [if_neg (by intro hc; rw [h] at hc; cases hc.1)]
/-- a text cut at the first @ -/
theorem pname_cut (s : ByteArray) : pname s = pn (cutA s).1 (parseV (cutA s).2) := by
  unfold cutA
  cases hd : (sb s).findIdx? (fun c => c == 64) with
  | none =>
    have hno : ∀ x ∈ sb s, x ≠ 64 := fun x hx e => by have := List.findIdx?_eq_none_iff.1 hd x hx; simp [e] at this
    simp only
    rw [parseV_nil, pn_no _ _ rfl]
    apply pname_no
    unfold splitT split
    rw [split_last 64 _ hno]
    simp
  | some i =>
    obtain ⟨hi, h1, h2⟩ := List.findIdx?_eq_some_iff_getElem.1 hd
    have h1' : (sb s)[i] = 64 := by simpa using h1
    have e : sb s = (sb s).take i ++ [64] ++ (sb s).drop (i + 1) := by
      rw [← h1', List.append_assoc]
      simp
    have hn : ∀ x ∈ (sb s).take i, x ≠ 64 := by
      intro x hx
      obtain ⟨j, hj, rfl⟩ := List.getElem_of_mem hx
      rw [List.getElem_take]
      have hj' : j < i := by rw [List.length_take] at hj; omega
      have := h2 j hj'
      simpa using this
    have e1 : sb (s.extract 0 i) = (sb s).take i := by rw [sb_ext]; simp
    have e2 : sb (s.extract (i + 1) s.size) = (sb s).drop (i + 1) := by
      rw [sb_ext, List.take_of_length_le (by rw [List.length_drop, sb_len]; omega)]
    have hsp : split 64 (sb s) = sb (s.extract 0 i) :: split 64 (sb (s.extract (i + 1) s.size)) := by
      rw [e1, e2]
      unfold split
      conv => lhs; rw [e]
      exact split_part 64 _ _ hn
    simp only
    by_cases hy : (64 : Int) ∈ sb (s.extract (i + 1) s.size)
    · rw [pn_no _ _ (parseV_at hy)]
      apply pname_no
      unfold splitT
      rw [hsp]
      have := splitL_two _ [] hy
      unfold split
      simp
      omega
    · have hl := split_last 64 (sb (s.extract (i + 1) s.size)) (fun y hy' e => hy (e ▸ hy'))
      have : splitT 64 s = [s.extract 0 i, s.extract (i + 1) s.size] := by
        unfold splitT
        rw [hsp]
        unfold split
        rw [hl]
        simp [txt_sbv]
      unfold pname
      rw [this]
theorem cutA_size (s : ByteArray) : (cutA s).1.size ≤ s.size ∧ (cutA s).2.size ≤ s.size := by
  unfold cutA
  split
  · simp only [ByteArray.size_extract]
    omega
  · exact ⟨Nat.le_refl _, Nat.zero_le _⟩

set_option maxRecDepth 1000000 in
set_option maxHeartbeats 2000000 in
theorem pname_impl (w : World) (s : ByteArray) (hs : s.size ≤ 1048576) :
    Calls Tryz.prog 11 #[.string s] w fun e w' => e = .returned (.tuple #[.agg #[.string (pname s).1.path, .int .i64 (pname s).1.a, .int .i64 (pname s).1.b, .int .i64 (pname s).1.c, .string (pname s).1.pre], .bool (pname s).2]) ∧ Below w.heap.size w w' := by
  have HR : Hid (Nr (w.alloc (.cells #[.string ⟨#[]⟩, .int .i64 0, .int .i64 0, .int .i64 0, .string ⟨#[]⟩] 35)) w.heap.size nil5) := heap_alloc_new w _
  have HB : Hid (Below w.heap.size w (w.alloc (.cells #[.string ⟨#[]⟩, .int .i64 0, .int .i64 0, .int .i64 0, .string ⟨#[]⟩] 35))) := (Below.refl _ _).alloc (Nat.le_refl _) _
  have q0 := clone_impl (w.alloc (.cells #[.string ⟨#[]⟩, .int .i64 0, .int .i64 0, .int .i64 0, .string ⟨#[]⟩] 35)) s (by omega)
  have q1 : ∀ W, _ := fun W => cutA_impl W s (by omega)
  have HP : Hid (pname s = pn (cutA s).1 (parseV (cutA s).2)) := pname_cut s
  obtain ⟨hxs, hys⟩ := cutA_size s
  obtain ⟨x, hx⟩ : ∃ x, (cutA s).1 = x := ⟨_, rfl⟩
  obtain ⟨y, hy⟩ : ∃ x, (cutA s).2 = x := ⟨_, rfl⟩
  obtain ⟨z, hz⟩ : ∃ x, decide (0 ≤ ats s) = x := ⟨_, rfl⟩
  simp only [hx, hy, hz] at q1 hxs hys HP
  clear hx hy hz
  have q2 : ∀ W, _ := fun W => parse_impl W y (by omega)
  simp only [parse_same] at q2
  have hpz := parseV_size y
  obtain ⟨⟨a, b, c, p⟩, r, hpv⟩ : ∃ q r, parseV y = (q, r) := ⟨_, _, rfl⟩
  simp only [hpv] at q2 hpz
  have HP2 : Hid (pname s = pn x ((a, b, c, p), r)) := by show _ = _; rw [HP.out, hpv]
  unfold verQ Ver.ver at q2
  simp only at q2
  clear hpv HP
  go_enter Tryz.func11, Tryz.ntmps11
  go_wp2_with fail
  refine q0.mono ?_
  rintro e w1 ⟨rfl, b1⟩
  have r1 : Nr w1 w.heap.size nil5 := rowStay5 HR.out b1
  have hB1 : Below w.heap.size w w1 := HB.out.trans (b1.mono HB.out.size)
  clear q0 HR HB b1
  go_wp2_with fail
  refine (q1 _).mono ?_
  rintro e w2 ⟨rfl, b2⟩
  have r2 : Nr w2 w.heap.size nil5 := rowStay5 r1 b2
  have hB2 : Below w.heap.size w w2 := hB1.trans (b2.mono hB1.size)
  clear q1 r1 hB1 b2
  go_wp2_with fail
  refine (q2 _).mono ?_
  rintro e w3 ⟨rfl, b3⟩
  have r3 : Nr w3 w.heap.size nil5 := rowStay5 r2 b3
  have hB3 : Below w.heap.size w w3 := hB2.trans (b3.mono hB2.size)
  clear q2 r2 hB2 b3
  have r4 : Nr (w3.alloc (.cells #[.int .i64 a, .int .i64 b, .int .i64 c, .string p] 25)) w.heap.size nil5 := rowStay5 r3 ((Below.refl _ _).alloc (Nat.le_refl _) _)
  have hB4 : Below w.heap.size w (w3.alloc (.cells #[.int .i64 a, .int .i64 b, .int .i64 c, .string p] 25)) := hB3.alloc hB3.size _
  have V4 : Vr (w3.alloc (.cells #[.int .i64 a, .int .i64 b, .int .i64 c, .string p] 25)) w3.heap.size a b c p := heap_alloc_new w3 _
  obtain ⟨m0, m1, m2, m3⟩ := Vr.cells V4
  have r5 : Nr ((w3.alloc (.cells #[.int .i64 a, .int .i64 b, .int .i64 c, .string p] 25)).alloc (.cells #[.string x, .int .i64 a, .int .i64 b, .int .i64 c, .string p] 35)) w.heap.size nil5 := rowStay5 r4 ((Below.refl _ _).alloc (Nat.le_refl _) _)
  have hB5 : Below w.heap.size w ((w3.alloc (.cells #[.int .i64 a, .int .i64 b, .int .i64 c, .string p] 25)).alloc (.cells #[.string x, .int .i64 a, .int .i64 b, .int .i64 c, .string p] 35)) := hB4.alloc hB4.size _
  have N5 : Nr ((w3.alloc (.cells #[.int .i64 a, .int .i64 b, .int .i64 c, .string p] 25)).alloc (.cells #[.string x, .int .i64 a, .int .i64 b, .int .i64 c, .string p] 35)) (w3.heap.size + 1) ⟨x, a, b, c, p⟩ := by
    have := heap_alloc_new (w3.alloc (.cells #[.int .i64 a, .int .i64 b, .int .i64 c, .string p] 25)) (.cells #[.string x, .int .i64 a, .int .i64 b, .int .i64 c, .string p] 35)
    rw [World.size_alloc] at this
    exact this
  obtain ⟨n0, n1, n2, n3, n4⟩ := Nr.cells N5
  simp only at n0 n1 n2 n3 n4
  have hlt : w.heap.size < w3.heap.size := (Array.getElem?_eq_some_iff.1 r3).1
  have HR5 : Hid _ := r5
  have HB5 : Hid _ := hB5
  have HN5 : Hid _ := N5
  clear r3 r4 hB3 hB4 V4 r5 hB5 N5
  cases r
  · have HN : Hid (pname s = (nil5, false)) := by show _ = _; rw [HP2.out]; exact pn_no _ _ rfl
    clear HP2
    go_wp2_with (refine wpList_store_row rfl 35 _ _ rfl w.heap.size (nc5 nil5) rfl rfl 35 _ HR5.out (sizeN5 nil5) rfl (oneN5 nil5) ?_)
    exact bodyPost_ret (results_row_tmp rfl _ _ w.heap.size 35 (nc5 nil5) (0, 0) _ rfl (setRow_heap _ _ _ _ _ (0, 0) HR5.out) Tryz.underlying35 rfl (sizeN5 nil5)) rfl ⟨by rw [HN.out]; rfl, below_setRow HB5.out (Nat.le_refl _) _⟩
  · have q4 : ∀ W, _ := fun W => need_impl W ⟨x, a, b, c, p⟩ (by show x.size ≤ _; omega) (by show p.size ≤ _; omega)
    obtain ⟨f, hf⟩ : ∃ f, (⟨x, a, b, c, p⟩ : Nd).ok = f := ⟨_, rfl⟩
    simp only [hf] at q4
    have HN : Hid (pname s = if f = true then (⟨x, a, b, c, p⟩, true) else (nil5, false)) := by
      show _ = _
      rw [HP2.out]
      unfold pn
      have hf' : fits4 x a b c p = f := hf
      simp only [hf', true_and]
    clear HP2 hf
    go_wp2_with fail
    refine (q4 _).mono ?_
    rintro e w6 ⟨rfl, b6⟩
    have r6 : Nr w6 w.heap.size nil5 := rowStay5 HR5.out b6
    have N6 : Nr w6 (w3.heap.size + 1) ⟨x, a, b, c, p⟩ := rowStay5 HN5.out b6
    have hB6 : Below w.heap.size w w6 := HB5.out.trans (b6.mono HB5.out.size)
    clear q4 HR5 HB5 HN5 b6 n0 n1 n2 n3 n4 m0 m1 m2 m3
    cases f
    · have HF : Hid (pname s = (nil5, false)) := HN.out
      clear HN
      go_wp2_with (refine wpList_store_row rfl 35 _ _ rfl w.heap.size (nc5 nil5) rfl rfl 35 _ r6 (sizeN5 nil5) rfl (oneN5 nil5) ?_)
      exact bodyPost_ret (results_row_tmp rfl _ _ w.heap.size 35 (nc5 nil5) (0, 0) _ rfl (setRow_heap _ _ _ _ _ (0, 0) r6) Tryz.underlying35 rfl (sizeN5 nil5)) rfl ⟨by rw [HF.out]; rfl, below_setRow hB6 (Nat.le_refl _) _⟩
    · have HF : Hid (pname s = (⟨x, a, b, c, p⟩, true)) := HN.out
      clear HN
      go_wp2_with (first | (refine wpList_load_row rfl 35 _ rfl (w3.heap.size + 1) rfl 35 (nc5 ⟨x, a, b, c, p⟩) (0, 0) _ N6 Tryz.underlying35 rfl (sizeN5 ⟨x, a, b, c, p⟩) ?_) | (refine wpList_store_row rfl 35 _ _ rfl w.heap.size (nc5 ⟨x, a, b, c, p⟩) rfl rfl 35 _ r6 (sizeN5 ⟨x, a, b, c, p⟩) rfl (oneN5 ⟨x, a, b, c, p⟩) ?_))
      exact bodyPost_ret (results_row_tmp rfl _ _ w.heap.size 35 (nc5 ⟨x, a, b, c, p⟩) (0, 0) _ rfl (setRow_heap _ _ _ _ _ (0, 0) r6) Tryz.underlying35 rfl (sizeN5 ⟨x, a, b, c, p⟩)) rfl ⟨by rw [HF.out]; rfl, below_setRow hB6 (Nat.le_refl _) _⟩

end Go.Proofs.YtljlcelbhlkmcabGreatDoor.Ent

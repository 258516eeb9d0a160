/- Texts in one: EfE, LmH. -/
import Derived.Test.YtbopliahafkecaaDoorPk13
import Derived.Test.YtbopliahafkecaaDoorPk27
import Derived.Test.YtbopliahafkecaaDoorPk25
import Derived.Test.YtbopliahafkecaaDoorPk23
import Derived.Test.YtbopliahafkecaaDoorPk20
import Derived.Test.YtbopliahafkecaaDoorPk28
import Derived.Test.YtbopliahafkecaaDoorPk26
/- Chapter 5, the landed code: names. -/
namespace Go.Proofs.YtbopliahafkecaaDoor.Ent
open Go.RowKit Go.Proofs.YtbopliahafkecaaDoor.Mem Go.Proofs.YtbopliahafkecaaDoor.Laws Go.Proofs.YtbopliahafkecaaDoor.Bytes Go.Proofs.YtbopliahafkecaaDoor.Sha Go.Proofs.YtbopliahafkecaaDoor.Ver Go.Proofs.YtbopliahafkecaaDoor.Mod
set_option linter.unusedVariables false
set_option linter.unusedSimpArgs false

set_option maxRecDepth 1000000 in
set_option maxHeartbeats 1000000 in
theorem name_impl (w : World) (hG : Glob w) (n : Nd) (hp : n.path.size ≤ 1000000000) (hq : n.pre.size ≤ 1000000000) :
    Calls Tryd.prog 23 #[.string n.path, .agg #[.int .i64 n.a, .int .i64 n.b, .int .i64 n.c, .string n.pre]] w fun e w' => e = .returned (.string (name5 n)) ∧ Below w.heap.size w w' := by
  have HD : Hid (name5 n = if n.ok = true then n.path ++ ⟨#[64]⟩ ++ Plain.txt (verText n.a n.b n.c n.pre) else ⟨#[]⟩) := rfl
  have q1 := fits_impl (w.alloc (.cells #[.int .i64 n.a, .int .i64 n.b, .int .i64 n.c, .string n.pre] 44)) n.path n.a n.b n.c n.pre (by omega) (by omega)
  have q2 : ∀ W, Below w.heap.size w W → _ := fun W hW => vtext_impl W n.a n.b n.c n.pre (by omega) (Glob.later hG hW)
  unfold Ver.ver at q1 q2
  have HR : Hid (Vr (w.alloc (.cells #[.int .i64 n.a, .int .i64 n.b, .int .i64 n.c, .string n.pre] 44)) w.heap.size n.a n.b n.c n.pre) := heap_alloc_new w _
  have HB : Hid (Below w.heap.size w (w.alloc (.cells #[.int .i64 n.a, .int .i64 n.b, .int .i64 n.c, .string n.pre] 44))) := (Below.refl _ _).alloc (Nat.le_refl _) _
  obtain ⟨ok, hok⟩ : ∃ ok, n.ok = ok := ⟨_, rfl⟩
  have hok' : fits4 n.path n.a n.b n.c n.pre = ok := hok
  rw [hok'] at q1
  rw [hok] at HD
  obtain ⟨t, ht⟩ : ∃ t, Plain.txt (verText n.a n.b n.c n.pre) = t := ⟨_, rfl⟩
  simp only [ht] at q2
  rw [ht] at HD
  have htz : t.size ≤ 2000000000 := by
    rw [← ht, txt_sizev]
    unfold verText vt
    split
    · have h6 : ∀ m, (digF 6 m).length ≤ 7 := fun m => (digF_len 6 m).2
      have := h6 n.a.toNat
      have := h6 n.b.toNat
      have := h6 n.c.toNat
      split <;> simp [sb_len] <;> omega
    · simp
  clear hok hok' ht
  go_enter Tryd.func23, Tryd.ntmps23
  go_wp2_with fail
  refine q1.mono ?_
  rintro e w1 ⟨rfl, b1⟩
  have hR := Vr.same HR.out b1
  have hB : Below w.heap.size w w1 := HB.out.trans (b1.mono HB.out.size)
  clear q1 HR HB b1
  cases ok
  · have HN : Hid (name5 n = ⟨#[]⟩) := HD.out
    go_wp2
    go_ret
    exact ⟨by rw [HN.out]; rfl, hB⟩
  · have HN : Hid (name5 n = n.path ++ ⟨#[64]⟩ ++ t) := HD.out
    obtain ⟨k0, k1, k2, k3⟩ := Vr.cells hR
    clear hR HD
    go_wp2_with fail
    refine (q2 _ hB).mono ?_
    rintro e w2 ⟨rfl, b2⟩
    have hB2 : Below w.heap.size w w2 := hB.trans (b2.mono hB.size)
    go_wp2
    go_ret
    exact ⟨by rw [HN.out]; rfl, hB2⟩

end Go.Proofs.YtbopliahafkecaaDoor.Ent

/- Chapter 17, the landed code: LockText. -/
namespace Go.Proofs.YtbopliahafkecaaDoor.Lm
open Go.RowKit Go.Proofs.YtbopliahafkecaaDoor.Mem Go.Proofs.YtbopliahafkecaaDoor.Laws Go.Proofs.YtbopliahafkecaaDoor.Bytes Go.Proofs.YtbopliahafkecaaDoor.Sha Go.Proofs.YtbopliahafkecaaDoor.Ver Go.Proofs.YtbopliahafkecaaDoor.Mod Go.Proofs.YtbopliahafkecaaDoor.Ent Go.Proofs.YtbopliahafkecaaDoor.He Go.Proofs.YtbopliahafkecaaDoor.Lk
set_option linter.unusedVariables false
set_option linter.unusedSimpArgs false

theorem wh_app (A B : List (Nat × ByteArray)) : wh (A ++ B) = wh A ++ wh B := by unfold wh; rw [List.map_append, List.flatten_append]

theorem wh_names : ∀ (l : List Nd) (M : List (Nat × ByteArray)), M.map (·.2) = l.map name5 → wh M = rest l := by
  intro l
  induction l with
  | nil => intro M h; rw [List.map_nil, List.map_eq_nil_iff] at h; subst h; rfl
  | cons n r ih =>
    intro M h
    cases M with
    | nil => cases h
    | cons x t =>
      rw [List.map_cons, List.map_cons] at h
      obtain ⟨h1, h2⟩ := List.cons.inj h
      rw [wh_cons, h1, ih t h2]
      rfl

theorem wh_lock {h : Hd} {l : List Nd} (hk : okH h = true) {M : List (Nat × ByteArray)} (hM : M.map (·.2) = Plain.txt (line0 h) :: l.map name5) : wh M = line0 h ++ [10] ++ rest l := by
  cases M with
  | nil => cases hM
  | cons x t =>
    rw [List.map_cons] at hM
    obtain ⟨h1, h2⟩ := List.cons.inj hM
    rw [wh_cons, h1, wh_names l t h2, sb_txtv (line0_byt hk)]

theorem nx_first {F : Nat} {u : ByteArray} {D L : List (Nat × ByteArray)} {b : Nat} {t : ByteArray} (e : D ++ [(b, t)] = (F, u) :: L) : nx (D ++ [(b, t)]) = .pointer (some ⟨F, 0, none⟩) := by rw [e]; rfl

/-- the lines so far: from the block F on; the last one's is b -/
def Chain (W : World) (F b : Nat) (ts : List ByteArray) : Prop :=
  ∃ (D : List (Nat × ByteArray)) (t u : ByteArray) (L : List (Nat × ByteArray)), D ++ [(b, t)] = (F, u) :: L ∧ (D ++ [(b, t)]).map (·.2) = ts ∧ Lns W (D ++ [(b, t)])

theorem Chain.later {W W' : World} {F b : Nat} {ts : List ByteArray} (h : Chain W F b ts) (k : Below W.heap.size W W') : Chain W' F b ts := by
  obtain ⟨D, t, u, L, h1, h2, h3⟩ := h
  exact ⟨D, t, u, L, h1, h2, h3.later k⟩

theorem Chain.row {W : World} {F b : Nat} {ts : List ByteArray} (h : Chain W F b ts) : ∃ t v, W.heap[b]? = some (.cells #[.string t, v] 51 (0, 0)) ∧ F ≤ b := by
  obtain ⟨D, t, u, L, h1, h2, h3⟩ := h
  obtain ⟨v, hv⟩ := h3.row (b, t) (by simp)
  refine ⟨t, v, hv, ?_⟩
  have hm : (b, t) ∈ (F, u) :: L := by rw [← h1]; simp
  rw [h1] at h3
  rcases List.mem_cons.1 hm with h8 | h8
  · have := congrArg Prod.fst h8
    simp only at this
    omega
  · have h7 := h3.2.1 _ h8
    simp only at h7
    omega

theorem Chain.add {W W' : World} {F b g : Nat} {ts : List ByteArray} {t s : ByteArray} {v : Value} (h : Chain W F b ts) (hb : W.heap[b]? = some (.cells #[.string t, v] 51 (0, 0))) (rb : W'.heap[b]? = some (.cells #[.string t, .pointer (some ⟨g, 0, none⟩)] 51 (0, 0)))
    (rg : W'.heap[g]? = some (.cells #[.string s, .pointer none] 51 (0, 0))) (hg : W.heap.size ≤ g) (gr : W.grownBy W' (some b)) : Chain W' F g (ts ++ [s]) := by
  obtain ⟨D, t2, u, L, h1, h2, h3⟩ := h
  obtain ⟨v2, hv⟩ := h3.row (b, t2) (by simp)
  have e : t2 = t := by
    simp only at hv
    rw [hv] at hb
    simp at hb
    exact hb.1
  subst e
  exact ⟨D ++ [(b, t2)], s, u, L ++ [(g, s)], by rw [h1]; rfl, by rw [List.map_append, h2]; rfl, Lns.snoc h3 rb rg hg gr⟩

set_option maxRecDepth 1000000 in
set_option maxHeartbeats 8000000 in
theorem lock_impl (w : World) (hG : Glob w) (h : Hd) (v : Value) (l : List Nd) (hs : Sd w v l) (hl : l.length ≤ 1000000000) (hr : h.r.size ≤ 1000000000) (hz : ∀ x ∈ l, x.path.size ≤ 1000000000 ∧ x.pre.size ≤ 1000000000) :
    Calls Tryd.prog 9 #[.agg #[.int .i64 h.n, .string h.r], v] w fun e w' => e = .returned (.string (lock h l)) ∧ Below w.heap.size w w' := by
  have HS : Hid (Sd w v l) := hs
  have HG : Hid (Glob w) := hG
  have HZ : Hid (∀ x ∈ l, x.path.size ≤ 1000000000 ∧ x.pre.size ≤ 1000000000) := hz
  obtain ⟨_, ao, cap, rfl, hcap, _, _⟩ := hs
  obtain ⟨hn, hb⟩ := h
  simp only at hr
  have HK : Hid (lockOk ⟨hn, hb⟩ l = (okH ⟨hn, hb⟩ && decide (l.length ≤ 60) && rise l)) := rfl
  have q0 : ∀ W, _ := fun W => ok_impl W ⟨hn, hb⟩ (by show hb.size ≤ _; omega)
  simp only at q0
  obtain ⟨K0, hK0⟩ : ∃ K, okH ⟨hn, hb⟩ = K := ⟨_, rfl⟩
  simp only [hK0] at q0
  have HK0 : Hid (okH ⟨hn, hb⟩ = K0) := hK0
  clear hK0 hz hG
  obtain ⟨W1, HW1, b1, y1, hS1, r_h1⟩ := Ke.l1 w #[.int .i64 hn, .string hb] 28
  have z1 := b1.size
  have B1 : Hid (Below w.heap.size w W1) := b1
  have c_h1 := Ke.c r_h1
  go_enter Tryd.func9, Tryd.ntmps9
  go_wp2_with fail
  rw [HW1.out]
  refine (q0 W1).mono ?_
  rintro e W2 ⟨rfl, b2⟩
  have z2 := b2.size
  have B2 := Ke.b B1 b2
  have r_h2 := Ke.r r_h1 b2
  have c_h2 := Ke.c r_h2
  clear r_h1 c_h1 q0
  cases K0
  · have HN : Hid (lockOk ⟨hn, hb⟩ l = false) := by show _ = _; rw [HK.out, HK0.out]; rfl
    go_wp2
    go_ret
    exact ⟨by rw [lock_no HN.out]; rfl, B2.out⟩
  obtain ⟨⟨hn0, hn1⟩, hb32⟩ := of_decide_eq_true HK0.out
  simp only at hn0 hn1 hb32
  obtain ⟨m, rfl⟩ : ∃ m : Nat, hn = (m : Int) := ⟨hn.toNat, by omega⟩
  have q1 := upto_impl W2 (.slice ao l.length cap) l 60 (HS.out.later B2.out) (by omega) (fun x hx => by have := HZ.out x hx; omega)
  obtain ⟨K1, hK1⟩ : ∃ K, (decide ((l.length : Int) ≤ 60) && rise l) = K := ⟨_, rfl⟩
  rw [hK1] at q1
  have HK1 : Hid (lockOk ⟨(m : Int), hb⟩ l = K1) := by
    show _ = _
    rw [HK.out, HK0.out, ← hK1]
    have : decide (l.length ≤ 60) = decide ((l.length : Int) ≤ 60) := by
      by_cases h9 : l.length ≤ 60
      · rw [decide_eq_true h9, decide_eq_true (by omega)]
      · rw [decide_eq_false h9, decide_eq_false (by omega)]
    rw [this]
    simp
  clear hK1
  go_wp2_with fail
  refine q1.mono ?_
  rintro e W3 ⟨rfl, b3⟩
  have z3 := b3.size
  have B3 := Ke.b B2 b3
  have r_h3 := Ke.r r_h2 b3
  have c_h3 := Ke.c r_h3
  clear r_h2 c_h2 q1
  cases K1
  · go_wp2
    go_ret
    exact ⟨by rw [lock_no HK1.out]; rfl, B3.out⟩
  have HH : Hid (lockOk ⟨(m : Int), hb⟩ l = true) := HK1
  have h60 : l.length ≤ 60 := (lockOk_parts HH.out).2.1
  have q2 : ∀ W, Below w.heap.size w W → _ := fun W hW => itoa_impl W m (by omega) (Glob.later HG.out hW)
  have q3 : ∀ W, _ := fun W => hex_impl W hb (by omega)
  obtain ⟨tA, hA⟩ : ∃ t, Plain.txt (digF 6 m) = t := ⟨_, rfl⟩
  obtain ⟨tB, hB⟩ : ∃ t, Plain.txt (hexs (sb hb)) = t := ⟨_, rfl⟩
  have sA : tA.size ≤ 7 := by rw [← hA, txt_sizev]; exact (digF_len 6 m).2
  have sB : tB.size ≤ 100 := by rw [← hB, txt_sizev, hexs_len, sb_len]; omega
  simp only [hA] at q2
  simp only [hB] at q3
  have HAB : Hid (Plain.txt (digF 6 m) = tA ∧ Plain.txt (hexs (sb hb)) = tB) := ⟨hA, hB⟩
  clear hA hB
  obtain ⟨x1, hx1⟩ : ∃ x, (⟨#[105, 110, 100, 101, 120, 32]⟩ : ByteArray) ++ tA = x := ⟨_, rfl⟩
  obtain ⟨x2, hx2⟩ : ∃ x, x1 ++ (⟨#[32]⟩ : ByteArray) = x := ⟨_, rfl⟩
  obtain ⟨x3, hx3⟩ : ∃ x, x2 ++ tB = x := ⟨_, rfl⟩
  have n1 : x1.size ≤ 13 := by rw [← hx1, ByteArray.size_append]; show 6 + tA.size ≤ 13; omega
  have n2 : x2.size ≤ 14 := by rw [← hx2, ByteArray.size_append]; show x1.size + 1 ≤ 14; omega
  have n3 : x3.size ≤ 114 := by rw [← hx3, ByteArray.size_append]; omega
  have HX : Hid (x3 = Plain.txt (line0 ⟨(m : Int), hb⟩)) := by
    show _ = _
    rw [← hx3, ← hx2, ← hx1, ← HAB.out.1, ← HAB.out.2]
    unfold line0 word0
    simp only [txt_app, Int.toNat_natCast, ByteArray.append_assoc]
    rfl
  have r1 : ¬ 9223372036854775807 < 6 + tA.size := by omega
  have r2 : ¬ 9223372036854775807 < x1.size + 1 := by omega
  have r3 : ¬ 9223372036854775807 < x2.size + tB.size := by omega
  have r5 : ¬ 9223372036854775806 < x1.size := by omega
  go_wp2_with fail
  refine wp_region_held_drew (S := fun w' => w'.cell? ⟨w.heap.size, 0, none⟩ = some (.int .i64 (m : Int)) ∧ w'.cell? ⟨w.heap.size, 1, none⟩ = some (.string hb)) (by kernel_rfl) ⟨(c_h3 0), (c_h3 1)⟩ (fun hHeld => ?_)
  obtain ⟨W4, HW4, b4⟩ : ∃ X, Hid (W3.drew = X) ∧ Below W3.heap.size W3 X := ⟨_, rfl, Below.drew (Below.refl _ _)⟩
  have HHW4 := HW4.out
  rw [HHW4] at hHeld ⊢
  clear HHW4
  have z4 := b4.size
  have B4 := Ke.b B3 b4
  clear r_h3 c_h3
  refine Ke.y 0 rfl (fun _ _ _ h => h) ?_
  try simp only [Act.put, pu1, pu2, pu3, pu4, pu5, pu6]
  refine Ke.y 1 rfl (fun _ _ _ h => h) ?_
  try simp only [Act.put, pu1, pu2, pu3, pu4, pu5, pu6]
  refine Ke.y 5 rfl (fun _ _ _ h => h) ?_
  try simp only [Act.put, pu1, pu2, pu3, pu4, pu5, pu6]
  refine Ke.y 6 rfl (fun _ _ _ h => h) ?_
  try simp only [Act.put, pu1, pu2, pu3, pu4, pu5, pu6]
  refine Ke.z 2 rfl (fun K hK => ?_)
  go_simp
  refine (q2 W4 B4.out).mono ?_
  rintro e W5 ⟨rfl, b5⟩
  refine hK.out _ _ ⟨(keepR (W := W4) hHeld.1 b5), (keepR (W := W4) hHeld.2 b5)⟩ (fun hHeld => ?_)
  clear hK K
  try simp only [Act.put, pu1, pu2, pu3, pu4, pu5, pu6]
  have z5 := b5.size
  have B5 := Ke.b B4 b5
  refine Ke.y 3 rfl (fun _ _ _ h => h) ?_
  try simp only [Act.put, pu1, pu2, pu3, pu4, pu5, pu6]
  refine Ke.y 4 rfl (fun _ _ _ h => h) ?_
  try simp only [Act.put, pu1, pu2, pu3, pu4, pu5, pu6]
  refine Ke.z 7 rfl (fun K hK => ?_)
  go_simp
  refine (q3 W5).mono ?_
  rintro e W6 ⟨rfl, b6⟩
  refine hK.out _ _ ⟨(keepR (W := W5) hHeld.1 b6), (keepR (W := W5) hHeld.2 b6)⟩ (fun hHeld => ?_)
  clear hK K
  try simp only [Act.put, pu1, pu2, pu3, pu4, pu5, pu6]
  have z6 := b6.size
  have B6 := Ke.b B5 b6
  refine Ke.y 8 rfl (fun _ _ _ h => h) ?_
  try simp only [Act.put, pu1, pu2, pu3, pu4, pu5, pu6]
  refine Ke.y 9 rfl (fun _ _ _ h => h) ?_
  try simp only [Act.put, pu1, pu2, pu3, pu4, pu5, pu6]
  refine Ke.z 10 rfl (fun K hK => ?_)
  go_simp
  obtain ⟨W7, HW7, b7, y7, hS7, r7⟩ := Ke.l1 W6 #[.string x3, .pointer none] 51
  have z7 := b7.size
  refine hK.out _ _ ⟨(keepR (W := W6) hHeld.1 ((Below.refl _ _).alloc (Nat.le_refl _) _)), (keepR (W := W6) hHeld.2 ((Below.refl _ _).alloc (Nat.le_refl _) _))⟩ (fun hHeld => ?_)
  clear hK K
  try simp only [Act.put, pu1, pu2, pu3, pu4, pu5, pu6]
  have HHW7 := HW7.out
  rw [HHW7] at hHeld ⊢
  clear HHW7
  refine Ke.y 11 rfl (fun _ _ _ h => h) ?_
  try simp only [Act.put, pu1, pu2, pu3, pu4, pu5, pu6]
  refine wpAnyH_done (by kernel_rfl) ?_ _
  clear hHeld
  have B7 := Ke.b B6 b7
  have zz := B6.out.size
  have HC7 : Hid (Chain W7 W6.heap.size W6.heap.size (x3 :: (l.take 0).map name5)) := ⟨[], x3, x3, [], rfl, rfl, ⟨r7.out, (by intro y hy; cases hy), trivial⟩⟩
  clear q2 q3 r1 r2 r3 r5 hx1 hx2 hx3 n1 n2 b1 b2 b3 b4 b5 b6 b7 B1 B2 B3 B4 B5 B6 r7 HW1 HW4 HW7 hS1 hS7
  go_wp2
  go_loopw [6, 31] (fun lv iv wr => ∃ (k b : Nat), lv = .pointer (some ⟨b, 0, none⟩) ∧ iv = .int .i64 (k : Int) ∧ k ≤ l.length ∧ Hid (Chain wr W6.heap.size b (x3 :: (l.take k).map name5)) ∧ Hid (Below w.heap.size w wr)) (fun _ iv _ => l.length - (intOf iv).toNat)
  case atStart => exact ⟨0, _, rfl, rfl, Nat.zero_le _, HC7, B7⟩
  case round =>
    obtain ⟨k, b, rfl, rfl, hk, HC, HB⟩ := hrel
    clear HC7 B7
    by_cases hlt : k < l.length
    · obtain ⟨x, hxk⟩ : ∃ n, l[k]? = some n := ⟨l[k], by simp [hlt]⟩
      obtain ⟨b9, off, cap', he, _, c0, c1, c2, c3, c4⟩ := Sd.at (HS.out.later HB.out) hxk
      simp only [Value.slice.injEq] at he
      obtain ⟨rfl, _, rfl⟩ := he
      have hxz := HZ.out x (List.mem_of_getElem? hxk)
      have HT : Hid (l.take (k + 1) = l.take k ++ [x]) := by show _ = _; rw [List.take_add_one, hxk]; rfl
      have hlt2 : (k : Int) < (l.length : Int) := by omega
      clear hxk
      obtain ⟨V1, HV1, a1, ya1, hSa1, ra1⟩ := Ke.l1 wr #[.string x.path, .int .i64 x.a, .int .i64 x.b, .int .i64 x.c, .string x.pre] 46
      have x0 : V1.cell? ⟨wr.heap.size, 0, none⟩ = some (.string x.path) := (by exact row_at ra1.out 0)
      have x1 : V1.cell? ⟨wr.heap.size, 1, none⟩ = some (.int .i64 x.a) := (by exact row_at ra1.out 1)
      have x2 : V1.cell? ⟨wr.heap.size, 2, none⟩ = some (.int .i64 x.b) := (by exact row_at ra1.out 2)
      have x9 : V1.cell? ⟨wr.heap.size, 3, none⟩ = some (.int .i64 x.c) := (by exact row_at ra1.out 3)
      have x4 : V1.cell? ⟨wr.heap.size, 4, none⟩ = some (.string x.pre) := (by exact row_at ra1.out 4)
      rw [← HV1.out] at x0 x1 x2 x9 x4
      have BV1 := Ke.b HB a1
      have CV1 : Hid (Chain V1 W6.heap.size b (x3 :: (l.take k).map name5)) := HC.out.later a1
      have q4 := name_impl V1 (Glob.later HG.out BV1.out) x hxz.1 hxz.2
      clear HC a1 hSa1
      go_wp2_with fail
      rw [HV1.out]
      refine q4.mono ?_
      rintro e V2 ⟨rfl, a2⟩
      have BV2 := Ke.b BV1 a2
      have CV2 : Hid (Chain V2 W6.heap.size b (x3 :: (l.take k).map name5)) := CV1.out.later a2
      clear q4 a2 CV1 BV1 x0 x1 x2 x9 x4 HV1 ra1 c0 c1 c2 c3 c4
      obtain ⟨t, v, rb, hFb⟩ := CV2.out.row
      obtain ⟨y, hy⟩ : ∃ y, name5 x = y := ⟨_, rfl⟩
      have HY : Hid (name5 x = y) := hy
      rw [hy]
      clear hy
      have q5 := add_impl V2 b t y v rb
      have zv2 := BV2.out.size
      go_wp2_with fail
      refine q5.mono ?_
      rintro e V3 ⟨g, rfl, hg, rb3, rg3, g3⟩
      have CV3 : Hid (Chain V3 W6.heap.size g (x3 :: (l.take (k + 1)).map name5)) := by
        have h9 := CV2.out.add rb rb3 rg3 hg g3
        rw [HT.out, List.map_append]
        show Chain _ _ _ (x3 :: ((l.take k).map name5 ++ [name5 x]))
        rw [HY.out]
        exact h9
      have BV3 : Hid (Below w.heap.size w V3) := belowGro BV2.out g3 BV2.out.size (fun k e => by injection e with e; omega)
      clear q5 rb rb3 rg3 g3 CV2 BV2
      go_wp2
      go_roundw
      case rel => exact ⟨k + 1, g, rfl, by go_num, by omega, CV3, BV3⟩
      case measure => simp [intOf]; omega
    · have hkl : k = l.length := by omega
      have hlt2 : ¬ (k : Int) < (l.length : Int) := by omega
      obtain ⟨D, t, u, L, e1, e2, hL⟩ := HC.out
      rw [hkl, List.take_of_length_le (Nat.le_refl _), HX.out] at e2
      have HWH := wh_lock (lockOk_parts HH.out).1 e2
      have hrs := rest_size l HZ.out
      have hsz : (wh (D ++ [(b, t)])).length ≤ 140737488355328 := by
        rw [HWH, List.length_append, List.length_append]
        have h9 : (line0 ⟨(m : Int), hb⟩).length = x3.size := by rw [HX.out, txt_sizev]
        rw [h9]
        simp only [List.length_singleton]
        omega
      have q6 := whole_impl wr (D ++ [(b, t)]) hL hsz
      rw [nx_first e1, HWH] at q6
      have HF : Hid (Plain.txt (line0 ⟨(m : Int), hb⟩ ++ [10] ++ rest l) = lock ⟨(m : Int), hb⟩ l) := by
        show _ = _
        unfold lock
        rw [if_pos HH.out]
      rw [HF.out] at q6
      clear hL e1 e2 HWH hrs hsz hkl
      go_wp2_with fail
      refine q6.mono ?_
      rintro e V2 ⟨rfl, a2⟩
      have BV2 := Ke.b HB a2
      clear q6
      go_wp2
      go_ret
      exact ⟨rfl, BV2.out⟩

end Go.Proofs.YtbopliahafkecaaDoor.Lm

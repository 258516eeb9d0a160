/- Texts in one: EfB. -/
import Derived.Test.YtlhmemnaiobgkaaGreatDoorPq38
import Derived.Test.YtlhmemnaiobgkaaGreatDoorPq13
import Derived.Test.YtlhmemnaiobgkaaGreatDoorPq31
/- Chapter 5, the landed code: is an entry right. -/
namespace Go.Proofs.YtlhmemnaiobgkaaGreatDoor.Ent
open Go.RowKit Go.Proofs.YtlhmemnaiobgkaaGreatDoor.Mem Go.Proofs.YtlhmemnaiobgkaaGreatDoor.Laws Go.Proofs.YtlhmemnaiobgkaaGreatDoor.Bytes Go.Proofs.YtlhmemnaiobgkaaGreatDoor.Sha Go.Proofs.YtlhmemnaiobgkaaGreatDoor.Ver Go.Proofs.YtlhmemnaiobgkaaGreatDoor.Mod
set_option linter.unusedVariables false
set_option linter.unusedSimpArgs false

set_option maxRecDepth 1000000 in
set_option maxHeartbeats 2000000 in
theorem self_impl (w : World) (v : Value) (n : Nd) (l : List Nd) (h : Sd w v l) (hl : l.length ≤ 1000000000000) :
    Calls Tryz.prog 94 #[v, .string n.path] w fun e w' => e = .returned (.bool (self5 n l)) ∧ Below w.heap.size w w' := by
  have HS : Hid (Sd w v l) := h
  obtain ⟨hcl, ao, cap, rfl, hcap, hnn, _⟩ := h
  go_enter Tryz.func94, Tryz.ntmps94
  go_wp2
  go_loopw [9] (fun i wr => ∃ k : Nat, k ≤ l.length ∧ i = .int .i64 (k : Int) ∧ Hid (self5 n (l.take k) = false) ∧ Below w.heap.size w wr) (fun i _ => l.length - (intOf i).toNat)
  case atStart => exact ⟨0, Nat.zero_le _, rfl, by show _ = _; simp [self5], Below.refl _ _⟩
  case round =>
    obtain ⟨k, hk, rfl, HA, hB⟩ := hrel
    by_cases hlt : k < l.length
    · obtain ⟨x, hn⟩ : ∃ n, l[k]? = some n := ⟨l[k], by simp [hlt]⟩
      obtain ⟨b, off, cap', he, _, c0, c1, c2, c3, c4⟩ := Sd.at (HS.out.later hB) hn
      simp only [Value.slice.injEq] at he
      obtain ⟨rfl, _, rfl⟩ := he
      obtain ⟨eq, heq⟩ : ∃ b, eqT x.path n.path = b := ⟨_, rfl⟩
      have heq' : (x.path.toList == n.path.toList) = eq := heq
      have HT : Hid (self5 n (l.take (k + 1)) = eq) := by show _ = _; rw [self5_take hn, HA.out, heq]; rfl
      have HX : Hid (eq = true → self5 n l = true) := fun h1 => self5_bad hn (by rw [heq, h1])
      have HR : Hid (Nr (wr.alloc (.cells #[.string x.path, .int .i64 x.a, .int .i64 x.b, .int .i64 x.c, .string x.pre] 38)) wr.heap.size x) := heap_alloc_new wr _
      have hB0 : Below w.heap.size w (wr.alloc (.cells #[.string x.path, .int .i64 x.a, .int .i64 x.b, .int .i64 x.c, .string x.pre] 38)) := hB.alloc hB.size _
      obtain ⟨r0, r1, r2, r3, r4⟩ := Nr.cells HR.out
      clear hn heq
      cases eq
      · go_wp2
        go_roundw
        case rel => exact ⟨k + 1, by omega, by go_num, HT, hB0⟩
        case measure => simp [intOf]; omega
      · have HF : Hid (self5 n l = true) := HX.out rfl
        clear HX
        go_wp2
        go_ret
        exact ⟨by rw [HF.out]; rfl, hB0⟩
    · have HN : Hid (self5 n l = false) := by
        show _ = _
        have := HA.out
        rwa [List.take_of_length_le (by omega)] at this
      go_wp2
      go_ret
      exact ⟨by rw [HN.out]; rfl, hB⟩

/-- an error: none where all is right -/
def Er (er : Value) (ok : Bool) : Prop := ok = true ∧ er = .nilIface ∨ ok = false ∧ ∃ x : ByteArray, er = .iface 126 (.agg #[.string x])

set_option maxRecDepth 1000000 in
set_option maxHeartbeats 2000000 in
theorem check_impl (w : World) (n : Nd) (v : Value) (l : List Nd) (h : Sd w v l) (hl : l.length ≤ 1000000000000) (hp : n.path.size ≤ 1000000000000) (hq : n.pre.size ≤ 1000000000000) (hz : ∀ n ∈ l, n.path.size ≤ 1000000000000 ∧ n.pre.size ≤ 1000000000000) :
    Calls Tryz.prog 74 #[.agg #[.string n.path, .int .i64 n.a, .int .i64 n.b, .int .i64 n.c, .string n.pre, v]] w fun e w' => ∃ er, e = .returned er ∧ Er er (entry5 n l) ∧ Below w.heap.size w w' := by
  have HD : Hid (entry5 n l = (fits4 n.path n.a n.b n.c n.pre && (decide ((l.length : Int) ≤ 8) && rise l) && !self5 n l)) := by
    show _ = _
    have e8 : decide ((l.length : Int) ≤ 8) = decide (l.length ≤ 8) := by
      by_cases h8 : l.length ≤ 8
      · rw [decide_eq_true h8, decide_eq_true (by omega)]
      · rw [decide_eq_false h8, decide_eq_false (by omega)]
    unfold entry5 Nd.ok
    rw [e8]
    cases self5 n l <;> cases fits4 n.path n.a n.b n.c n.pre <;> cases decide (l.length ≤ 8) <;> cases rise l <;> rfl
  have q1 : ∀ W, _ := fun W => fits_impl W n.path n.a n.b n.c n.pre hp hq
  unfold Ver.ver at q1
  have q2 : ∀ W, Below w.heap.size w W → _ := fun W hW => upto_impl W v l 8 (h.later hW) hl hz
  have q3 : ∀ W, Below w.heap.size w W → _ := fun W hW => self_impl W v n l (h.later hW) hl
  have HR : Hid ((w.alloc (.cells #[.string n.path, .int .i64 n.a, .int .i64 n.b, .int .i64 n.c, .string n.pre, v] 34)).heap[w.heap.size]? = some (.cells (ec n v) 34 (0, 0))) := heap_alloc_new w _
  have HB : Hid (Below w.heap.size w (w.alloc (.cells #[.string n.path, .int .i64 n.a, .int .i64 n.b, .int .i64 n.c, .string n.pre, v] 34))) := (Below.refl _ _).alloc (Nat.le_refl _) _
  have k0 : (w.alloc (.cells #[.string n.path, .int .i64 n.a, .int .i64 n.b, .int .i64 n.c, .string n.pre, v] 34)).cell? ⟨w.heap.size, 0, none⟩ = some (.string n.path) := row_cells HR.out 0
  have k1 : (w.alloc (.cells #[.string n.path, .int .i64 n.a, .int .i64 n.b, .int .i64 n.c, .string n.pre, v] 34)).cell? ⟨w.heap.size, 1, none⟩ = some (.int .i64 n.a) := row_cells HR.out 1
  have k2 : (w.alloc (.cells #[.string n.path, .int .i64 n.a, .int .i64 n.b, .int .i64 n.c, .string n.pre, v] 34)).cell? ⟨w.heap.size, 2, none⟩ = some (.int .i64 n.b) := row_cells HR.out 2
  have k3 : (w.alloc (.cells #[.string n.path, .int .i64 n.a, .int .i64 n.b, .int .i64 n.c, .string n.pre, v] 34)).cell? ⟨w.heap.size, 3, none⟩ = some (.int .i64 n.c) := row_cells HR.out 3
  have k4 : (w.alloc (.cells #[.string n.path, .int .i64 n.a, .int .i64 n.b, .int .i64 n.c, .string n.pre, v] 34)).cell? ⟨w.heap.size, 4, none⟩ = some (.string n.pre) := row_cells HR.out 4
  obtain ⟨f, hf⟩ : ∃ f, fits4 n.path n.a n.b n.c n.pre = f := ⟨_, rfl⟩
  obtain ⟨u, hu⟩ : ∃ f, (decide ((l.length : Int) ≤ 8) && rise l) = f := ⟨_, rfl⟩
  obtain ⟨s, hs⟩ : ∃ f, self5 n l = f := ⟨_, rfl⟩
  simp only [hf] at q1
  simp only [hu] at q2
  simp only [hs] at q3
  rw [hf, hu, hs] at HD
  clear hf hu hs hz
  obtain ⟨hcl, ao, cap, rfl, hcap, hnn, _⟩ := h
  go_enter Tryz.func74, Tryz.ntmps74
  go_wp2_with fail
  refine (q1 _).mono ?_
  rintro e w2 ⟨rfl, b2⟩
  have hB2 : Below w.heap.size w w2 := HB.out.trans (b2.mono HB.out.size)
  have R2 := rowKeep HR.out b2
  have j5 : w2.cell? ⟨w.heap.size, 5, none⟩ = some (.slice ao l.length cap) := row_cells R2 5
  have q2' := q2 w2 hB2
  clear q1 q2 k0 k1 k2 k3 k4 HR HB b2
  cases f
  · have HF : Hid (entry5 n l = false) := HD.out
    clear HD
    go_wp2
    go_ret
    exact ⟨_, rfl, Or.inr ⟨HF.out, _, rfl⟩, hB2⟩
  go_wp2_with fail
  refine q2'.mono ?_
  rintro e w3 ⟨rfl, b3⟩
  have hB3 : Below w.heap.size w w3 := hB2.trans (b3.mono hB2.size)
  have R3 := rowKeep R2 b3
  have j0 : w3.cell? ⟨w.heap.size, 0, none⟩ = some (.string n.path) := row_cells R3 0
  have j5' : w3.cell? ⟨w.heap.size, 5, none⟩ = some (.slice ao l.length cap) := row_cells R3 5
  have q3' := q3 w3 hB3
  clear q2' q3 j5 R2 b3
  cases u
  · have HF : Hid (entry5 n l = false) := HD.out
    clear HD
    go_wp2
    go_ret
    exact ⟨_, rfl, Or.inr ⟨HF.out, _, rfl⟩, hB3⟩
  go_wp2_with fail
  refine q3'.mono ?_
  rintro e w4 ⟨rfl, b4⟩
  have hB4 : Below w.heap.size w w4 := hB3.trans (b4.mono hB3.size)
  clear q3' j0 j5' b4 R3
  cases s
  · have HF : Hid (entry5 n l = true) := HD.out
    clear HD
    go_wp2
    go_ret
    exact ⟨_, rfl, Or.inl ⟨HF.out, rfl⟩, hB4⟩
  · have HF : Hid (entry5 n l = false) := HD.out
    clear HD
    go_wp2
    go_ret
    exact ⟨_, rfl, Or.inr ⟨HF.out, _, rfl⟩, hB4⟩

theorem no_er (w : World) (er : Value) (ok : Bool) (hg : As.Hand w) (he : Er er ok) :
    Calls Tryz.prog 73 #[er] w fun e w' => e = .returned (.bool !ok) ∧ Below w.heap.size w w' := by
  rcases he with ⟨rfl, rfl⟩ | ⟨rfl, x, rfl⟩
  · exact As.no_nil w
  · exact As.no_hit w x hg

theorem sizeIE (n : Nd) (v : Value) : (Tryz.prog.info? 34).map (·.size) = some (ec n v).size := by
  show _ = some 6
  kernel_rfl

set_option maxRecDepth 1000000 in
set_option maxHeartbeats 2000000 in
theorem entryok_impl (w : World) (hg : As.Hand w) (n : Nd) (v : Value) (l : List Nd) (h : Sd w v l) (hl : l.length ≤ 1000000000000) (hp : n.path.size ≤ 1000000000000) (hq : n.pre.size ≤ 1000000000000) (hz : ∀ n ∈ l, n.path.size ≤ 1000000000000 ∧ n.pre.size ≤ 1000000000000) :
    Calls Tryz.prog 43 #[.agg #[.string n.path, .int .i64 n.a, .int .i64 n.b, .int .i64 n.c, .string n.pre, v]] w fun e w' => e = .returned (.bool (entry5 n l)) ∧ Below w.heap.size w w' := by
  have HR : Hid ((w.alloc (.cells #[.string n.path, .int .i64 n.a, .int .i64 n.b, .int .i64 n.c, .string n.pre, v] 34)).heap[w.heap.size]? = some (.cells (ec n v) 34 (0, 0))) := heap_alloc_new w _
  have HB : Hid (Below w.heap.size w (w.alloc (.cells #[.string n.path, .int .i64 n.a, .int .i64 n.b, .int .i64 n.c, .string n.pre, v] 34))) := (Below.refl _ _).alloc (Nat.le_refl _) _
  have q1 := check_impl (w.alloc (.cells #[.string n.path, .int .i64 n.a, .int .i64 n.b, .int .i64 n.c, .string n.pre, v] 34)) n v l (h.later HB.out) hl hp hq hz
  have HG : Hid (As.Hand w) := hg
  obtain ⟨ok, hok⟩ : ∃ ok, entry5 n l = ok := ⟨_, rfl⟩
  rw [hok] at q1
  rw [hok]
  clear hok hz hg
  go_enter Tryz.func43, Tryz.ntmps43
  go_wp2_with (refine wpList_load_row rfl 34 _ rfl w.heap.size rfl 34 (ec n v) (0, 0) _ HR.out Tryz.underlying34 rfl (sizeIE n v) ?_)
  refine q1.mono ?_
  rintro e w2 ⟨er, rfl, hEr, b2⟩
  have hB2 : Below w.heap.size w w2 := HB.out.trans (b2.mono HB.out.size)
  have q2 := no_er w2 er ok (As.Hand.later HG.out hB2) hEr
  clear q1 HR HB b2 hEr
  go_wp2_with fail
  refine q2.mono ?_
  rintro e w3 ⟨rfl, b3⟩
  have hB3 : Below w.heap.size w w3 := hB2.trans (b3.mono hB2.size)
  clear q2 b3
  cases ok
  · go_wp2
    go_ret
    exact ⟨rfl, hB3⟩
  · go_wp2
    go_ret
    exact ⟨rfl, hB3⟩

end Go.Proofs.YtlhmemnaiobgkaaGreatDoor.Ent

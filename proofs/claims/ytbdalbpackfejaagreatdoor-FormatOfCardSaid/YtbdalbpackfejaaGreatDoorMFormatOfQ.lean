/- A fact laid behind its veil, by a short name. No condition. -/
import Derived.Lib.Hide
namespace Go.RowKit
theorem Hid.o {p : Prop} (h : Hid p) : p := h.out
end Go.RowKit
namespace Go.Proofs.YtbdalbpackfejaaGreatDoor
theorem qh {p : Prop} (h : p) : Go.RowKit.Hid p := h
end Go.Proofs.YtbdalbpackfejaaGreatDoor

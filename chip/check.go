package chip

import (
	"bakelite/api"
	"bakelite/drive"
	"bakelite/port"
	"bakelite/serial"
	"bakelite/sound"
	"bakelite/table"
	"bakelite/timer"
	"bakelite/video"
)

// processor is the name that stands for the processor of a board, and for no chip.
const processor = "cpu"

// Check validates a chip.
func Check(c api.Chip) api.Errno {
	switch {
	case !table.Name(c.Name):
		return api.ErrName
	case c.Name == processor:
		return api.ErrBan
	case c.Kind < api.Ram || c.Kind >= api.NumKinds:
		return api.ErrType
	case !sizeFits(c):
		return api.ErrArg
	case c.Size > api.MaxMem || len(c.Data) > api.MaxMem:
		return api.ErrLarge
	case c.Base < 0 || c.Base > addresses-c.Size:
		return api.ErrFar
	case !dataFit(c):
		return api.ErrForm
	}
	return api.OK
}

// sizeFits reports whether a chip has a number of addresses that its kind permits.
func sizeFits(c api.Chip) bool {
	switch c.Kind {
	case api.Ram, api.Rom:
		return c.Size >= 1
	case api.Bank:
		return c.Size >= 2
	case api.Timer:
		return c.Size == timer.Size
	case api.Port:
		return c.Size == port.Size
	case api.Serial:
		return c.Size == serial.Size
	case api.Video:
		return c.Size == video.Size
	case api.Sound:
		return c.Size == sound.Size
	case api.Drive:
		return c.Size == drive.Size
	}
	return false
}

// dataFit reports whether a chip has as many data as its kind and its size permit.
func dataFit(c api.Chip) bool {
	switch c.Kind {
	case api.Ram, api.Rom:
		return len(c.Data) <= c.Size
	case api.Bank:
		return true
	case api.Drive:
		return len(c.Data)%drive.Disk == 0
	}
	return len(c.Data) == 0
}
